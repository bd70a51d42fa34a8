package machine_test

import (
	"math/big"

	"assize/api"
	"assize/compile"
	"assize/script"
	"assize/state"
	"assize/trie"
)

// Here the chapter is told anew: a contract goes from a tree to a tree, so that
// there is nothing to take back; a piece that enters another is a call within a
// call; numbers are as great as they like. What ends a contract is a panic.

type ended int

type teller struct {
	st     *state.State
	code   api.Code
	job    api.Job
	deep   int // contracts around this one
	used   int
	pieces int
	notes  []api.Note
}

func failed(used int) api.Outcome { return api.Outcome{Kind: api.Failed, Used: used} }

func isNumber(n int) bool { return 0 <= n && n < 1<<40 }

func jobMayBe(j api.Job) bool {
	for _, n := range append([]int{j.From, j.To, j.Value, j.Height}, j.Args...) {
		if !isNumber(n) {
			return false
		}
	}
	return len(j.Args) <= 8 && 0 <= j.Gas && j.Gas <= 65536
}

// told: the outcome and the tree behind it; without code it is that of the text.
func told(before trie.Tree, made *api.Code, j api.Job, deep int) (api.Outcome, trie.Tree) {
	if !jobMayBe(j) {
		return failed(0), before
	}
	t := &teller{st: state.New(before), job: j, deep: deep}
	if j.Value > 0 && t.st.Move(j.From, j.To, j.Value) != api.OK {
		return failed(0), before
	}
	if made == nil {
		text := t.st.Text(j.To)
		if text == "" {
			return api.Outcome{Kind: api.Done}, t.st.Tree()
		}
		c, e := script.Parse(text)
		if e != api.OK {
			return failed(0), before
		}
		x, e := compile.Compile(c)
		if e != api.OK {
			return failed(0), before
		}
		made = &x
	}
	t.code = *made
	for _, p := range made.Pieces {
		if p.Open && p.Name == j.Text && p.Params == len(j.Args) {
			o := t.whole(p)
			if o.Kind == api.Done {
				return o, t.st.Tree()
			}
			return o, before
		}
	}
	return failed(0), before
}

func (t *teller) whole(p api.Piece) (o api.Outcome) {
	defer func() {
		if e, ok := recover().(ended); ok {
			o = api.Outcome{Kind: int(e), Used: t.used}
			if e == api.Out {
				o.Used = t.job.Gas
			}
		}
	}()
	return api.Outcome{Kind: api.Done, Value: t.piece(p, t.job.Args), Used: t.used, Notes: t.notes}
}

func (t *teller) mustBe(is bool) {
	if !is {
		panic(ended(api.Failed))
	}
}

func (t *teller) pay(n int) {
	if t.used+n > t.job.Gas {
		panic(ended(api.Out))
	}
	t.used += n
}

// gas: C1.
var gas = map[string]int{"Enter": 2, "Read": 4, "Seek": 4, "Purse": 4, "Say": 4, "Write": 8, "Stow": 8, "Hand": 16, "Reach": 16}

// piece: its answer.
func (t *teller) piece(p api.Piece, args []int) int {
	t.pieces++
	t.mustBe(t.pieces <= 32)
	locals := map[int]int{}
	for i, n := range args {
		locals[i] = n
	}
	var stack []int
	take := func() int {
		n := stack[len(stack)-1]
		stack = stack[:len(stack)-1]
		return n
	}
	takes := func(many int) []int {
		l := make([]int, many)
		for i := range l {
			l[many-1-i] = take()
		}
		return l
	}
	for at := 0; ; {
		i := p.Body[at]
		name := opNames[i.Op]
		at++
		t.pay(max(1, gas[name]))
		switch name {
		case "Push":
			stack = append(stack, i.A)
		case "Pop":
			take()
		case "Load":
			stack = append(stack, locals[i.A])
		case "Store":
			locals[i.A] = take()
		case "Jump":
			at = i.A
		case "Zero":
			if take() == 0 {
				at = i.A
			}
		case "Enter":
			stack = append(stack, t.piece(t.code.Pieces[i.A], takes(t.code.Pieces[i.A].Params)))
		case "Back":
			t.pieces--
			return take()
		case "Reach":
			l := takes(i.A + 3)
			stack = append(stack, t.reach(l[0], l[1:1+i.A], l[1+i.A], l[2+i.A], t.code.Names[i.B])...)
		case "Flip", "Must", "Say", "Write", "Purse", "Seek":
			stack = append(stack, t.ofOne(name, i.A, take())...)
		case "Read", "Me", "From", "Paid", "High":
			stack = append(stack, map[string]int{"Read": t.st.Word(t.job.To, i.A, 0), "Me": t.job.To, "From": t.job.From, "Paid": t.job.Value, "High": t.job.Height}[name])
		default:
			l := takes(2)
			stack = append(stack, t.ofTwo(name, i.A, l[0], l[1])...)
		}
	}
}

func (t *teller) ofOne(name string, a, n int) []int {
	switch name {
	case "Flip":
		return []int{truth(n == 0)}
	case "Must":
		t.mustBe(n != 0)
	case "Say":
		t.say([]api.Note{{Who: t.job.To, N: n}})
	case "Write":
		t.st.SetWord(t.job.To, a, 0, n)
	case "Purse":
		return []int{t.st.Account(n).Balance}
	case "Seek":
		return []int{t.st.Word(t.job.To, a, n)}
	}
	return nil
}

func (t *teller) ofTwo(name string, a, x, y int) []int {
	switch name {
	case "Same":
		return []int{truth(x == y)}
	case "Under":
		return []int{truth(x < y)}
	case "Above":
		return []int{truth(x > y)}
	case "Stow":
		t.st.SetWord(t.job.To, a, x, y)
		return nil
	case "Hand":
		t.mustBe(t.st.Move(t.job.To, x, y) == api.OK)
		return nil
	}
	p, q, r := big.NewInt(int64(x)), big.NewInt(int64(y)), new(big.Int)
	switch name {
	case "Plus":
		r.Add(p, q)
	case "Minus":
		r.Sub(p, q)
	case "Times":
		r.Mul(p, q)
	case "Over":
		t.mustBe(y != 0)
		r.Quo(p, q)
	case "Rest":
		t.mustBe(y != 0)
		r.Rem(p, q)
	}
	t.mustBe(r.Sign() >= 0 && r.BitLen() <= 40)
	return []int{int(r.Int64())}
}

func (t *teller) say(l []api.Note) {
	t.notes = append(t.notes, l...)
	t.mustBe(len(t.notes) <= 64)
}

func (t *teller) reach(whom int, args []int, value, gas int, name string) []int {
	if t.used+gas > t.job.Gas {
		panic(ended(api.Out))
	}
	o := failed(0)
	if t.deep+1 < 8 {
		var behind trie.Tree
		o, behind = told(t.st.Tree(), nil, api.Job{From: t.job.To, To: whom, Text: name, Args: args, Value: value, Gas: gas, Height: t.job.Height}, t.deep+1)
		t.st = state.New(behind)
	}
	t.pay(o.Used)
	t.say(o.Notes)
	return []int{o.Value, truth(o.Kind == api.Done)}
}

func truth(is bool) int {
	if is {
		return 1
	}
	return 0
}

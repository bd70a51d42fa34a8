package machine_test

import (
	"fmt"
	"math/rand"
	"testing"

	"assize/api"
	"assize/code"
	"assize/machine"
	"assize/state"
)

type artist struct{ *rand.Rand }

// number: one that means something in the tests' state, or is at an edge.
func (r artist) number() int {
	l := []int{0, 0, 1, 1, 2, 3, 4, 7, 20, 50, 100, giver, me, other, third, nobody, api.MaxNumber, api.MaxNumber - 1, 1 << 20}
	return l[r.Intn(len(l))]
}

// body: a straight one, then jumps in it that lead to places of the same height.
func (r artist) body(c api.Code, p api.Piece, steps int) []api.Instr {
	var body []api.Instr
	var heights []int
	height := 0
	add := func(takes, leaves int, i api.Instr) {
		for height < takes || height == 0 && i.Op == api.Back {
			heights = append(heights, height)
			body = append(body, r.source(p))
			height++
		}
		heights = append(heights, height)
		body = append(body, i)
		height += leaves - takes
	}
	for len(body) < steps {
		r.step(c, p, height, add)
	}
	for height > 1 {
		add(1, 0, api.Instr{Op: api.Pop})
	}
	add(1, 0, api.Instr{Op: api.Back})
	for at, i := range body {
		if i.Op == api.Zero {
			body[at].A = r.level(heights, at+1)
		}
		if r.Intn(40) == 0 && i.Op != api.Back && heights[at+1] == heights[at] {
			body[at] = api.Instr{Op: api.Jump, A: r.level(heights, at)}
		}
	}
	return body
}

// source: what leaves a number and takes none.
func (r artist) source(p api.Piece) api.Instr {
	switch n := r.Intn(8); {
	case n == 0 && p.Locals > 0:
		return api.Instr{Op: api.Load, A: r.Intn(p.Locals)}
	case n == 1:
		return api.Instr{Op: api.Read, A: r.Intn(3)}
	case n == 2:
		return api.Instr{Op: []int{api.Me, api.From, api.Paid, api.High}[r.Intn(4)]}
	}
	return api.Instr{Op: api.Push, A: r.number()}
}

func (r artist) step(c api.Code, p api.Piece, height int, add func(int, int, api.Instr)) {
	op := api.Push + r.Intn(api.Reach)
	if height > 40 {
		op = api.Pop
	}
	i := api.Instr{Op: op}
	switch op {
	case api.Push, api.Load, api.Me, api.From, api.Paid, api.High, api.Jump, api.Back:
		add(0, 1, r.source(p))
	case api.Store:
		if p.Locals > 0 {
			i.A = r.Intn(p.Locals)
			add(1, 0, i)
		}
	case api.Pop, api.Zero, api.Say, api.Must:
		add(1, 0, i)
	case api.Flip, api.Purse:
		add(1, 1, i)
	case api.Read, api.Write, api.Seek, api.Stow:
		i.A = r.Intn(3)
		add([]int{0, 1, 1, 2}[op-api.Read], []int{1, 0, 1, 0}[op-api.Read], i)
	case api.Hand:
		add(2, 0, i)
	case api.Enter:
		i.A = r.Intn(len(c.Pieces))
		add(c.Pieces[i.A].Params, 1, i)
	case api.Reach:
		r.reach(add)
	default:
		add(2, 1, i)
	}
}

// reach: an ask; most of them are of a function that is there.
func (r artist) reach(add func(int, int, api.Instr)) {
	push := func(l ...int) { add(0, 1, api.Instr{Op: api.Push, A: l[r.Intn(len(l))]}) }
	ask := []struct{ whom, args, name int }{{other, 1, 0}, {third, 2, 1}, {third, 0, 0}, {me, 0, 0}, {me, 1, 1}, {nobody, r.Intn(3), r.Intn(3)}, {other, r.Intn(3), r.Intn(3)}}[r.Intn(7)]
	push(ask.whom)
	for range ask.args {
		push(0, 1, 2, 5, other, third)
	}
	push(0, 0, 0, 1, 20)
	push(0, 60, 200, 400, 400, 400)
	add(ask.args+3, 2, api.Instr{Op: api.Reach, A: ask.args, B: ask.name})
}

// level: a place of the same height as that one.
func (r artist) level(heights []int, at int) int {
	var l []int
	for k, h := range heights {
		if h == heights[at] {
			l = append(l, k)
		}
	}
	return l[r.Intn(len(l))]
}

func (r artist) code() api.Code {
	c := api.Code{Names: []string{"f", "g", "no"}, Pieces: make([]api.Piece, 1+r.Intn(3))}
	for k := range c.Pieces {
		n := r.Intn(3)
		c.Pieces[k] = api.Piece{Name: "f", Open: r.Intn(4) > 0, Params: n, Locals: n + r.Intn(3)}
	}
	for k, p := range c.Pieces {
		c.Pieces[k].Body = r.body(c, p, 1+r.Intn(14))
	}
	return c
}

// drawnTexts: of the contract that is called, and of those who are asked, who may ask back.
var drawnTexts = []string{
	"contract c { slot n: num; open fn f() -> num { n = n + 1; note n; return n; } open fn g(a: num) -> num { need a != 2; return a + n; } }",
	`contract d { slot n: num; map m: num -> num;
	open fn f(a: num) -> num { let ok: flag = false; let r: num = 0; m[a] = m[a] + 1; ask ok, r = caller.f() value 1 gas 60; n = n + r; note n; return m[a]; } }`,
	`contract e { slot n: num; open fn g(a: num, b: num) -> num { let i: num = 0; while i < b { i = i + 1; note i; } n = n + a / b; return n; }
	open fn f() -> num { pay caller, value / 2; return balance(self); } }`,
}

// M1 to M7: codes that are drawn do what the oracle says, with much gas and with little.
func TestDrawn(t *testing.T) {
	r := artist{rand.New(rand.NewSource(9))}
	counts, notes := map[int]int{}, map[int]int{}
	steps := 0
	for n := range 12000 {
		c := r.code()
		if e := code.Check(c); e != api.OK {
			t.Fatalf("drawn to be good, and is not: %d: %v", e, c)
		}
		s := begun(drawnTexts...)
		if n%4 == 0 {
			s.SetText(me, "")
		}
		before := s.Tree()
		j := job([]int{r.number(), r.number(), r.number()}[:c.Pieces[0].Params]...)
		j.Value = []int{0, 0, 10, 200}[r.Intn(4)]
		for _, gas := range []int{3000, 3000, r.Intn(200), r.Intn(40)} {
			j.Gas = gas
			s := state.New(before)
			got, e := machine.Run(s, c, j)
			want, tree := told(before, &c, j, 0)
			if e != api.OK || fmt.Sprint(got) != fmt.Sprint(want) {
				t.Fatalf("M3 to M7: %v, %v: %d, %s, not %s", c, j, e, shown(got), shown(want))
			}
			if s.Tree().Root() != tree.Root() {
				t.Fatalf("M4, M5: %v, %v: %s, and the state is another", c, j, shown(got))
			}
			own, _ := state.Money(tree)
			if was, _ := state.Money(before); own != was {
				t.Fatalf("M4: %v, %v: money is not kept: %d, not %d", c, j, own, was)
			}
			for _, n := range got.Notes {
				notes[n.Who]++
			}
			counts[got.Kind]++
			steps += got.Used
		}
	}
	if counts[api.Done] < 3000 || counts[api.Failed] < 3000 || counts[api.Out] < 2000 || steps < 1000000 || notes[me] < 500 || notes[other] < 100 || notes[third] < 100 {
		t.Errorf("drawn too seldom: %v, %d gas, notes of %v", counts, steps, notes)
	}
}

package tidy_test

import (
	"fmt"
	"math/rand"
	"testing"

	"assize/api"
	"assize/code"
	"assize/compile"
	"assize/machine"
	"assize/script"
	"assize/state"
	"assize/trie"
)

// Those whom the drawn codes know.
const (
	giver = 3
	me    = api.Contracts + 1
	other = api.Contracts + 2
)

// begun: a state with the giver and two contracts, of which the other asks back.
func begun() trie.Tree {
	s := state.New(trie.New(8))
	s.SetAccount(giver, api.Account{Balance: 100})
	for i, text := range []string{
		"contract c { slot n: num; open fn f() -> num { n = n + 2 * 3; note n; return n; } open fn g(a: num) -> num { need a != 2; return a + n; } }",
		"contract d { slot n: num; open fn f(a: num) -> num { let ok: flag = false; let r: num = 0; ask ok, r = caller.f() value 1 gas 60; n = n + r + a; note n; return n; } }",
	} {
		if s.SetText(me+i, text) != api.OK || s.SetAccount(me+i, api.Account{Balance: 50}) != api.OK {
			panic("a state that can't be begun")
		}
	}
	return s.Tree()
}

type artist struct{ *rand.Rand }

func (r artist) of(l ...int) int { return l[r.Intn(len(l))] }

// A sheet: a body that is drawn straight, with the height of the stack at each place.
type sheet struct {
	body    []api.Instr
	heights []int
	height  int
}

func (s *sheet) add(takes, leaves int, i api.Instr) {
	s.heights = append(s.heights, s.height)
	s.body = append(s.body, i)
	s.height += leaves - takes
}

// body: a straight one; then jumps in it that lead to places of the same height.
func (r artist) body(c api.Code, p api.Piece, steps int) []api.Instr {
	s := &sheet{}
	for len(s.body) < steps || s.height == 0 {
		r.step(c, p, s)
	}
	for s.height > 1 {
		s.add(1, 0, api.Instr{Op: api.Pop})
	}
	s.add(1, 0, api.Instr{Op: api.Back})
	for at, i := range s.body {
		if i.Op == api.Zero {
			s.body[at].A = r.level(s.heights, s.heights[at+1])
		}
		if i.Op == api.Jump {
			s.body[at].A = r.level(s.heights, s.heights[at])
		}
	}
	return s.body
}

// level: a place of that height.
func (r artist) level(heights []int, height int) int {
	var l []int
	for at, h := range heights {
		if h == height {
			l = append(l, at)
		}
	}
	return r.of(l...)
}

// step: one that is drawn; most of them are such as may be tidied.
func (r artist) step(c api.Code, p api.Piece, s *sheet) {
	n := r.Intn(24)
	if s.height == 0 && n > 10 {
		n %= 11
	}
	if s.height > 20 {
		n = 23
	}
	switch {
	case n < 5:
		s.add(0, 1, api.Instr{Op: api.Push, A: r.of(0, 0, 1, 1, 2, 3, 5, giver, me, other, 1<<20, api.MaxNumber)})
	case n < 7:
		s.add(0, 1, api.Instr{Op: api.Load, A: r.Intn(p.Locals)})
	case n < 8:
		s.add(0, 1, api.Instr{Op: r.of(api.Me, api.From, api.Paid, api.High)})
	case n < 10:
		s.add(0, 0, api.Instr{Op: api.Jump})
	case n < 11:
		s.add(0, 1, api.Instr{Op: api.Read, A: r.Intn(2)})
	case n < 13:
		s.add(1, 1, api.Instr{Op: r.of(api.Flip, api.Flip, api.Flip, api.Purse)})
	case n < 15:
		s.add(1, 0, api.Instr{Op: api.Zero})
	case n < 16:
		s.add(1, 0, api.Instr{Op: r.of(api.Store, api.Write), A: r.Intn(p.Locals)})
	case n < 17:
		s.add(1, 0, api.Instr{Op: r.of(api.Say, api.Must)})
	case n < 20 && s.height > 1:
		s.add(2, 1, api.Instr{Op: api.Plus + r.Intn(8)})
	case n < 21:
		r.enter(c, s)
	default:
		s.add(1, 0, api.Instr{Op: api.Pop})
	}
}

// enter: another piece, or an ask of a contract, with what they take.
func (r artist) enter(c api.Code, s *sheet) {
	push := func(l ...int) { s.add(0, 1, api.Instr{Op: api.Push, A: r.of(l...)}) }
	if at := r.Intn(len(c.Pieces) + 1); at < len(c.Pieces) {
		for range c.Pieces[at].Params {
			push(0, 1, 2)
		}
		s.add(c.Pieces[at].Params, 1, api.Instr{Op: api.Enter, A: at})
		return
	}
	args := r.Intn(2)
	push(other, other, me, giver)
	for range args {
		push(0, 1, 2)
	}
	push(0, 0, 1)
	push(20, 200, 400)
	s.add(args+3, 2, api.Instr{Op: api.Reach, A: args, B: r.Intn(2)})
}

func (r artist) code() api.Code {
	c := api.Code{Names: []string{"f", "g"}, Pieces: make([]api.Piece, 1+r.Intn(3))}
	for k := range c.Pieces {
		n := r.Intn(3)
		c.Pieces[k] = api.Piece{Name: []string{"f", "g"}[r.Intn(2)], Open: r.Intn(4) > 0, Params: n, Locals: n + 1 + r.Intn(2)}
	}
	for k, p := range c.Pieces {
		c.Pieces[k].Body = r.body(c, p, 1+r.Intn(24))
	}
	return c
}

// sameRun: Y1 of a code, what it is tidied, and a job; the kind of the code's own end.
func sameRun(t *testing.T, before trie.Tree, c, y api.Code, j api.Job) (api.Outcome, api.Outcome) {
	t.Helper()
	s, u := state.New(before), state.New(before)
	a, _ := machine.Run(s, c, j)
	b, _ := machine.Run(u, y, j)
	switch a.Kind {
	case api.Done:
		if b.Kind != api.Done || a.Value != b.Value || fmt.Sprint(a.Notes) != fmt.Sprint(b.Notes) || b.Used > a.Used || s.Tree().Root() != u.Tree().Root() {
			t.Fatalf("Y1: %v, tidied %v: %v ends with %v, tidied %v", c, y, j, a, b)
		}
	case api.Failed:
		if b.Kind != api.Failed {
			t.Fatalf("Y1: %v, tidied %v: %v ends with %v, tidied %v", c, y, j, a, b)
		}
	}
	return a, b
}

// Y1, Y2: codes that are drawn do the same when they are tidied, with much gas and with little.
func TestDrawn(t *testing.T) {
	r := artist{rand.New(rand.NewSource(11))}
	before := begun()
	kinds := map[int]int{}
	from, to, saved := 0, 0, 0
	for range 20000 {
		c := r.code()
		if e := code.Check(c); e != api.OK {
			t.Fatalf("drawn to be good, and is not: %d: %v", e, c)
		}
		y := tidied(t, c)
		for k := range c.Pieces {
			from, to = from+len(c.Pieces[k].Body), to+len(y.Pieces[k].Body)
		}
		for _, p := range c.Pieces {
			j := api.Job{From: giver, To: me, Text: p.Name, Value: r.of(0, 0, 5), Height: r.Intn(3), Gas: r.of(2000, 2000, r.Intn(300))}
			for range p.Params {
				j.Args = append(j.Args, r.of(0, 0, 1, 2, other))
			}
			a, _ := sameRun(t, before, c, y, j)
			kinds[a.Kind]++
			if a.Kind == api.Done {
				// With just the gas that it needs, too.
				j.Gas = a.Used
				a, b := sameRun(t, before, c, y, j)
				saved += a.Used - b.Used
			}
		}
	}
	if kinds[api.Done] < 5000 || kinds[api.Failed] < 5000 || kinds[api.Out] < 2000 || to > from*2/3 || saved < 30000 {
		t.Errorf("drawn too seldom: %v; %d instructions, tidied %d; %d gas less", kinds, from, to, saved)
	}
}

// Y1: contracts that are compiled.
func TestContracts(t *testing.T) {
	before := begun()
	for _, text := range []string{
		"slot n: num; open fn f(a: num, b: num) -> num { let i: num = 1 + 2; while i < 2 * 5 { i = i + 1; if a < i and true { note i; } else { n = n + b / 2; } } return n; }",
		"fn g(k: num) -> num { if k == 1 - 1 { return 1; } else { return k * g(k - 1); } } open fn f(k: num, l: num) -> num { need 1 < 2; return g(k) + g(l) % (3 - 3 + l); }",
		"open fn f(a: num, b: num) -> num { let ok: flag = not true; let r: num = 0; if 1 == 1 { ask ok, r = who(1099511627775 - 1099511627775 + 4).f(a) value b gas 10 * 20; } if ok { return r; } return 999; }",
		"open fn f(a: num, b: num) -> num { if a == 0 or false { return 3 - 2; } if a == 1 { return 2 - 3; } if a == 2 { while true { a = 5 % 3; } } return 7 / (b * 0 + b); }",
	} {
		c, e := script.Parse("contract c { " + text + " }")
		x, f := compile.Compile(c)
		if e != api.OK || f != api.OK {
			t.Fatalf("%s: %d, %d", text, e, f)
		}
		y := tidied(t, x)
		for a := range 6 {
			for b := range 4 {
				for gas := range 120 {
					sameRun(t, before, x, y, api.Job{From: giver, To: me, Text: "f", Args: []int{a, b}, Gas: gas * gas / 10})
				}
			}
		}
	}
}

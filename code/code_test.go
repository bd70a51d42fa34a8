package code_test

import (
	"fmt"
	"strconv"
	"strings"
	"testing"

	"assize/api"
	"assize/code"
)

func TestTableIsThatOfTheNumbers(t *testing.T) {
	for name, op := range map[string]int{"Push": api.Push, "Load": api.Load, "Above": api.Above, "Zero": api.Zero, "Back": api.Back, "Stow": api.Stow, "Purse": api.Purse, "Must": api.Must, "Reach": api.Reach} {
		if all[op].name != name {
			t.Errorf("the table has %s as %d", name, op)
		}
	}
}

func TestCost(t *testing.T) {
	for op, r := range all {
		if got := code.Cost(op); strconv.Itoa(got) != r.gas {
			t.Errorf("C1: Cost of %s: %d, not %s", r.name, got, r.gas)
		}
	}
	for _, op := range []int{0, -1, -16, 31, 32, 1 << 40, -1 << 63, 1<<63 - 1} {
		if got := code.Cost(op); got != 1 {
			t.Errorf("C1: Cost of %d, which is none: %d, not 1", op, got)
		}
	}
}

// instrs: of words: "Push 3, Back"; a second number is B.
func instrs(s string) []api.Instr {
	var l []api.Instr
	for _, one := range strings.Split(s, ",") {
		w := strings.Fields(one)
		if len(w) == 0 {
			continue
		}
		i := api.Instr{}
		for op, r := range all {
			if r.name == w[0] {
				i.Op = op
			}
		}
		if len(w) > 1 {
			i.A, _ = strconv.Atoi(w[1])
		}
		if len(w) > 2 {
			i.B, _ = strconv.Atoi(w[2])
		}
		l = append(l, i)
	}
	return l
}

// checks: what Check says, and what the oracle says, is this; the code is left as it was.
func checks(t *testing.T, why string, c api.Code, want api.Errno) {
	t.Helper()
	before := fmt.Sprint(c)
	if got := code.Check(c); got != want {
		t.Errorf("C2: %s: Check: %d, not %d", why, got, want)
	}
	if got := oracle(c); got != want {
		t.Errorf("C2: %s: the oracle says %d, not %d", why, got, want)
	}
	if fmt.Sprint(c) != before {
		t.Errorf("P2: %s: Check changes the code", why)
	}
}

func TestExamples(t *testing.T) {
	checks(t, "example 4", api.Code{Pieces: []api.Piece{{Name: "add", Open: true, Params: 1, Locals: 1,
		Body: instrs("Load 0, Push 10, Under, Must, Read 0, Load 0, Plus, Write 0, Read 0, Back")}}}, api.OK)
	checks(t, "example 5", api.Code{Pieces: []api.Piece{{Body: instrs("Push 2, Push 3, Under, Zero 8, Push 4, Push 5, Plus, Back, Push 0, Back")}}}, api.OK)
	checks(t, "example 5, tidied", api.Code{Pieces: []api.Piece{{Body: instrs("Push 9, Back")}}}, api.OK)
	checks(t, "nothing", api.Code{}, api.OK)
	checks(t, "names alone", api.Code{Names: []string{"", "a", "a", "Not a name"}}, api.OK)
	// Whatever a piece is named: that is asked of nobody here.
	checks(t, "names of pieces", api.Code{Pieces: []api.Piece{{Name: "", Body: instrs("Push 9, Back")}, {Name: "if", Body: instrs("Me, Back")}, {Name: "if", Body: instrs("Me, Back")}}}, api.OK)
}

// long: a body of n instructions that may run.
func long(n int) []api.Instr {
	l := make([]api.Instr, 0, n)
	for len(l) < n-2 {
		l = append(l, api.Instr{Op: api.Jump, A: len(l) + 1})
	}
	return append(l, api.Instr{Op: api.Me}, api.Instr{Op: api.Back})
}

func TestLimits(t *testing.T) {
	pieces := func(n int) api.Code {
		c := api.Code{}
		for range n {
			c.Pieces = append(c.Pieces, api.Piece{Body: instrs("Push 1, Back")})
		}
		return c
	}
	one := func(p api.Piece) api.Code { return api.Code{Pieces: []api.Piece{p}} }
	good := instrs("Push 1, Back")
	for _, x := range []struct {
		why  string
		c    api.Code
		want api.Errno
	}{
		{"32 pieces", pieces(32), api.OK},
		{"33 pieces", pieces(33), api.ErrLimit},
		{"2048 instructions", one(api.Piece{Body: long(2048)}), api.OK},
		{"2049 instructions", one(api.Piece{Body: long(2049)}), api.ErrLimit},
		{"32 locals", one(api.Piece{Locals: 32, Body: good}), api.OK},
		{"33 locals", one(api.Piece{Locals: 33, Body: good}), api.ErrLimit},
		{"8 parameters", one(api.Piece{Params: 8, Locals: 8, Body: good}), api.OK},
		{"9 parameters", one(api.Piece{Params: 9, Locals: 9, Body: good}), api.ErrLimit},
		{"9 parameters, 8 locals", one(api.Piece{Params: 9, Locals: 8, Body: good}), api.ErrLimit},
		{"parameters and locals", one(api.Piece{Params: 3, Locals: 3, Body: good}), api.OK},
		{"more parameters than locals", one(api.Piece{Params: 4, Locals: 3, Body: good}), api.ErrCode},
		{"one parameter, no local", one(api.Piece{Params: 1, Body: good}), api.ErrCode},
		{"parameters below 0", one(api.Piece{Params: -1, Locals: 3, Body: good}), api.ErrCode},
		{"locals below 0", one(api.Piece{Locals: -1, Body: good}), api.ErrCode},
		{"both below 0", one(api.Piece{Params: -2, Locals: -1, Body: good}), api.ErrCode},
		{"the least of all", one(api.Piece{Params: -1 << 63, Locals: -1 << 63, Body: good}), api.ErrCode},
		{"the greatest of all", one(api.Piece{Params: 1<<63 - 1, Locals: 1<<63 - 1, Body: good}), api.ErrLimit},
		{"an empty body", one(api.Piece{}), api.ErrCode},
	} {
		checks(t, x.why, x.c, x.want)
	}
}

// C2: what is too much, in any piece, is told ahead of what is wrong in any.
func TestLimitsAreAhead(t *testing.T) {
	wrong := []api.Piece{
		{}, {Params: -1, Body: instrs("Push 1, Back")}, {Params: 1, Body: instrs("Push 1, Back")}, {Body: instrs("None")}, {Body: instrs("Push -1, Back")},
		{Body: instrs("Back")}, {Body: instrs("Push 1")}, {Body: instrs("Enter 40, Back")}, {Locals: 1, Body: instrs("Load 1, Back")},
	}
	much := []api.Piece{{Body: long(2049)}, {Locals: 33, Body: instrs("Push 1, Back")}, {Params: 9, Locals: 9, Body: instrs("Push 1, Back")}, {Params: 9, Body: instrs("Back")}, {Body: make([]api.Instr, 2049)}}
	for i, w := range wrong {
		checks(t, fmt.Sprint("wrong ", i), api.Code{Pieces: []api.Piece{w}}, api.ErrCode)
		checks(t, fmt.Sprint("wrong behind a good one ", i), api.Code{Pieces: []api.Piece{{Body: instrs("Push 1, Back")}, w}}, api.ErrCode)
		checks(t, fmt.Sprint("wrong ahead of a good one ", i), api.Code{Pieces: []api.Piece{w, {Body: instrs("Push 1, Back")}}}, api.ErrCode)
		for j, m := range much {
			checks(t, fmt.Sprint("wrong ", i, " ahead of too much ", j), api.Code{Pieces: []api.Piece{w, m}}, api.ErrLimit)
			checks(t, fmt.Sprint("wrong ", i, " behind too much ", j), api.Code{Pieces: []api.Piece{m, w}}, api.ErrLimit)
		}
		many := make([]api.Piece, 33)
		for k := range many {
			many[k] = w
		}
		checks(t, fmt.Sprint("33 that are wrong ", i), api.Code{Pieces: many}, api.ErrLimit)
		checks(t, fmt.Sprint("32 that are wrong ", i), api.Code{Pieces: many[:32]}, api.ErrCode)
	}
}

// C2: each instruction with each A and B at the edges, where a way leads to it and where none does.
func TestAAndB(t *testing.T) {
	numbers := []int{-1 << 63, -1, 0, 1, 2, 3, 4, 5, 7, 8, 9, 30, 31, 32, 33, 1<<40 - 1, 1 << 40, 1<<63 - 1}
	ops := []int{-1 << 63, -1, 0, 31, 32, 1<<63 - 1}
	for op := range all {
		ops = append(ops, op)
	}
	oks := 0
	for _, op := range ops {
		for _, a := range numbers {
			for _, b := range numbers {
				i := api.Instr{Op: op, A: a, B: b}
				for _, body := range [][]api.Instr{
					append(instrs("Push 1, Back"), i), // no way leads to it
					append(append(instrs("Push 1, Push 1, Push 1"), i), instrs("Pop, Back")...),
					append(append(instrs("Jump 2"), i), instrs("Push 1, Back")...),
				} {
					c := api.Code{Names: []string{"a", "b"}, Pieces: []api.Piece{{Locals: 3, Body: body}, {Params: 2, Locals: 2, Body: instrs("Load 0, Back")}}}
					want := oracle(c)
					if got := code.Check(c); got != want {
						t.Errorf("C2: %v: %d, not %d", c, got, want)
					}
					if want == api.OK {
						oks++
					}
				}
			}
		}
	}
	if oks < 100 {
		t.Errorf("only %d of them may run", oks)
	}
}

// C2: where there is nothing that A or B could name, no number is right.
func TestNothingToName(t *testing.T) {
	behind := "Push 1, Back, "
	for s, want := range map[string]api.Errno{
		"Load 0": api.ErrCode, "Store 0": api.ErrCode, "Reach 0 0": api.ErrCode, "Enter 0": api.OK, "Enter 1": api.ErrCode, "Read 0": api.OK,
		"Jump 2": api.OK, "Jump 3": api.ErrCode, "Zero 2": api.OK, "Zero 3": api.ErrCode, "Jump -1": api.ErrCode, "Zero -1": api.ErrCode,
	} {
		checks(t, s, api.Code{Pieces: []api.Piece{{Body: instrs(behind + s)}}}, want)
	}
	named := api.Code{Names: []string{"a", "a"}, Pieces: []api.Piece{{Locals: 2, Params: 1, Body: instrs(behind + "Load 0, Load 1, Store 1, Reach 0 0, Reach 8 1")}}}
	checks(t, "locals and names that there are", named, api.OK)
	for _, s := range []string{"Load 2", "Store 2", "Reach 0 2", "Reach 9 0", "Reach -1 0", "Reach 0 -1"} {
		named.Pieces[0].Body = instrs(behind + s)
		checks(t, s, named, api.ErrCode)
	}
	// A local is one of its own piece.
	checks(t, "another's local", api.Code{Pieces: []api.Piece{{Locals: 1, Body: instrs("Load 0, Back")}, {Body: instrs("Load 0, Back")}}}, api.ErrCode)
	checks(t, "another's place", api.Code{Pieces: []api.Piece{{Body: instrs("Jump 1, Jump 2, Me, Back")}, {Body: instrs("Jump 2, Back")}}}, api.ErrCode)
}

// pushes: n times Push 1, and n times less one a thing that takes one number more than it leaves, and Back.
func pushes(n int, less string) string {
	return strings.Repeat("Push 1, ", n) + strings.Repeat(less+", ", n-1) + "Back"
}

func TestFlow(t *testing.T) {
	for s, want := range map[string]api.Errno{
		"":                         api.ErrCode,
		"Back":                     api.ErrCode,
		"Push 1":                   api.ErrCode,
		"Push 1, Pop":              api.ErrCode,
		"Push 1, Push 1, Back":     api.ErrCode,
		"Push 1, Back, Back":       api.OK,
		"Push 1, Back, Pop":        api.OK,
		"Push 1, Back, Plus, Hand": api.OK,
		"Jump 0":                   api.OK, // it never comes to an end
		"Jump 1":                   api.ErrCode,
		"Jump 2, Pop, Me, Back":    api.OK,
		"Push 1, Jump 0":           api.ErrCode, // another height each time
		"Push 1, Pop, Jump 0":      api.OK,
		"Push 1, Zero 0, Me, Back": api.OK,
		"Push 1, Zero 2, Me, Back": api.OK,
		// The two ways come together with unlike heights, or with like ones.
		"Me, Zero 3, Me, Me, Back":                   api.ErrCode,
		"Me, Zero 4, Me, Jump 5, From, Back":         api.OK,
		"Me, Zero 5, Me, Jump 6, Pop, From, Back":    api.OK,
		"Me, Zero 4, Me, Jump 6, From, From, Back":   api.ErrCode,
		"Me, Zero 4, Me, Back, From, From, Back":     api.ErrCode,
		"Me, Zero 4, Me, Back, From, Back":           api.OK,
		"Me, Zero 4, Me, Back, Jump 2":               api.OK,
		"Me, Zero 4, Me, Back, Jump 3":               api.ErrCode,
		"Me, Zero 4, Me, Back, Pop":                  api.ErrCode,
		"Me, Zero 4, Me, Back, Me":                   api.ErrCode,
		"Me, Me, Zero 5, Pop, Me, Back":              api.OK,
		"Me, Me, Zero 0, Back":                       api.ErrCode,
		"Me, Zero 1, Me, Back":                       api.ErrCode, // Zero with nothing the second time
		"Me, Me, Zero 1, Back":                       api.OK,
		"Push 1, Zero 3, Jump 0":                     api.ErrCode,
		"Me, Zero 0":                                 api.ErrCode,
		"Me, Zero 0, Jump 0":                         api.OK,
		pushes(64, "Plus"):                           api.OK,
		pushes(65, "Plus"):                           api.ErrCode,
		pushes(64, "Pop"):                            api.OK,
		pushes(65, "Pop"):                            api.ErrCode,
		pushes(2, "Plus"):                            api.OK,
		pushes(300, "Plus"):                          api.ErrCode,
		strings.Repeat("Me, ", 64) + "Jump 0":        api.ErrCode,
		strings.Repeat("Me, ", 64) + "Jump 64":       api.OK,
		strings.Repeat("Me, ", 65) + "Jump 65":       api.ErrCode,
		strings.Repeat("Me, ", 63) + "Zero 64, Back": api.ErrCode,
	} {
		checks(t, s, api.Code{Pieces: []api.Piece{{Body: instrs(s)}}}, want)
	}
}

// C2: each instruction with just the numbers that it takes, with one less, and with what it leaves.
func TestTakesAndLeaves(t *testing.T) {
	for op, r := range all {
		if r.name == "Back" || r.name == "Jump" {
			continue
		}
		for a := range 4 {
			if a > 0 && r.a != "args" && r.a != "piece" {
				continue
			}
			c := api.Code{Names: []string{"a"}, Pieces: make([]api.Piece, 5)}
			for k := range c.Pieces {
				c.Pieces[k] = api.Piece{Params: k, Locals: 4, Body: instrs("Me, Back")}
			}
			i := api.Instr{Op: op, A: a}
			takes, leaves := taken(c, i), toNumber(r.leaves)
			for have := range 9 {
				for then := range 5 {
					body := append(instrs(strings.Repeat("Me, ", have)), i)
					if r.name == "Zero" {
						body[have].A = have + 1
					}
					c.Pieces[4].Body = append(body, instrs(strings.Repeat("Pop, ", then)+"Back")...)
					want := api.ErrCode
					if have >= takes && have-takes+leaves == then+1 {
						want = api.OK
					}
					checks(t, fmt.Sprint(r.name, " ", a, " of ", have, " and ", then, " that go"), c, want)
				}
			}
		}
	}
}

package tidy_test

import (
	"fmt"
	"strings"
	"testing"

	"assize/api"
	"assize/code"
	"assize/compile"
	"assize/script"
	"assize/tidy"
)

// Y1, Y2: what becomes of bodies; where nothing is named behind it, it stays as it is.
func TestBodies(t *testing.T) {
	for _, x := range []struct{ why, from, to string }{
		{"example 5", "Push 2, Push 3, Under, Zero 8, Push 4, Push 5, Plus, Back, Push 0, Back", "Push 9, Back"},
		{"nothing to tidy", "Push 1, Back", ""},
		{"example 4", "Load 0, Push 10, Under, Must, Read 0, Load 0, Plus, Write 0, Read 0, Back", ""},

		{"behind Back", "Push 1, Back, Push 2, Back", "Push 1, Back"},
		{"behind a Jump", "Jump 3, Push 2, Back, Load 0, Back", "Load 0, Back"},
		{"a loop to which no way leads", "Push 1, Back, Push 1, Zero 2, Jump 2", "Push 1, Back"},
		{"both ways of Zero are gone", "Load 0, Zero 4, Push 1, Back, Push 2, Back", ""},
		{"jumps to which no way leads", "Push 1, Jump 4, Jump 4, Zero 4, Push 2, Plus, Back", "Push 3, Back"},

		{"a Jump to a Jump", "Load 0, Zero 4, Push 1, Jump 6, Push 2, Jump 3, Back", "Load 0, Zero 4, Push 1, Jump 5, Push 2, Back"},
		{"Zero to a Jump", "Load 0, Zero 4, Push 1, Back, Jump 2", "Load 0, Zero 2, Push 1, Back"},
		{"a Jump to a Jump to a Jump", "Load 0, Zero 6, Load 1, Zero 7, Push 1, Back, Jump 8, Jump 6, Jump 2", "Load 0, Zero 2, Load 1, Zero 2, Push 1, Back"},
		{"back to the beginning", "Load 0, Zero 4, Push 1, Back, Jump 0", "Load 0, Zero 0, Push 1, Back"},

		{"a Jump to the next", "Jump 1, Push 1, Back", "Push 1, Back"},
		{"Jumps to the next", "Jump 1, Jump 2, Push 1, Jump 4, Jump 5, Back", "Push 1, Back"},
		{"a Jump over what falls away", "Load 0, Zero 3, Jump 5, Push 1, Pop, Push 2, Back", "Load 0, Zero 2, Push 2, Back"},
		{"a Jump back over one", "Load 0, Zero 3, Jump 0, Push 1, Back", ""},

		{"Flip of 0", "Push 0, Flip, Back", "Push 1, Back"},
		{"Flip of 1", "Push 1, Flip, Back", "Push 0, Back"},
		{"Flip of another", "Push 1099511627775, Flip, Back", "Push 0, Back"},
		{"Flip of Flip", "Push 7, Flip, Flip, Back", "Push 1, Back"},
		{"Flip of what is not known", "Load 0, Flip, Flip, Back", ""},
		{"Flip that is jumped to", "Push 2, Load 0, Zero 5, Store 1, Push 3, Flip, Back", ""},
		{"Flip behind a Push that is jumped to", "Load 0, Zero 0, Push 5, Flip, Back", "Load 0, Zero 0, Push 0, Back"},
		{"jumped to itself", "Push 2, Flip, Load 0, Zero 1, Back", ""},

		{"Push 0 and Zero", "Push 0, Zero 4, Push 1, Back, Push 2, Back", "Push 2, Back"},
		{"Push 1 and Zero", "Push 1, Zero 4, Push 1, Back, Push 2, Back", "Push 1, Back"},
		{"Push 9 and Zero", "Push 9, Zero 4, Push 1, Back, Push 2, Back", "Push 1, Back"},
		{"Push 0 and Zero back", "Load 0, Zero 4, Push 0, Zero 0, Push 1, Back", "Load 0, Zero 3, Jump 0, Push 1, Back"},
		{"Zero that is jumped to", "Push 1, Zero 4, Push 2, Jump 1, Push 3, Back", ""},

		{"a number for nobody", "Push 1, Pop, Load 0, Pop, Me, Pop, Paid, Pop, Push 2, Back", "Push 2, Back"},
		{"numbers for nobody", "Push 1, Load 1, Me, Paid, Pop, Pop, Pop, Pop, Push 2, Back", "Push 2, Back"},
		{"a sum for nobody", "Push 1, Push 2, Plus, Pop, Push 2, Back", "Push 2, Back"},
		{"a sum that fails, for nobody", "Push 1, Push 2, Minus, Pop, Push 2, Back", ""},
		{"what was read for nobody", "Read 0, Pop, Load 0, Purse, Pop, Load 0, Load 1, Over, Pop, Push 2, Back", ""},
		{"Pop that is jumped to", "Push 1, Load 0, Zero 5, Store 1, Push 2, Pop, Push 3, Back", ""},
		{"jumped to a pair", "Load 0, Zero 2, Push 1, Pop, Push 2, Back", "Load 0, Zero 2, Push 2, Back"},
		{"the first of a pair is jumped to", "Load 0, Zero 4, Load 1, Say, Push 1, Pop, Push 2, Back", "Load 0, Zero 4, Load 1, Say, Push 2, Back"},
		{"a pair ahead of what is jumped to", "Push 1, Pop, Load 0, Zero 2, Push 2, Back", "Load 0, Zero 0, Push 2, Back"},

		{"a sum of sums", "Push 1, Push 2, Plus, Push 3, Push 4, Times, Plus, Push 5, Minus, Back", "Push 10, Back"},
		{"the upper one alone", "Load 0, Push 1, Plus, Push 2, Plus, Back", ""},
		{"the lower one alone", "Push 1, Load 0, Plus, Push 2, Push 3, Plus, Plus, Back", "Push 1, Load 0, Plus, Push 5, Plus, Back"},
		{"a third is jumped to", "Push 1, Push 2, Load 0, Zero 6, Pop, Push 3, Plus, Back", ""},
		{"the second is jumped to", "Push 1, Load 0, Zero 3, Push 2, Plus, Back", ""},
		{"the first is jumped to", "Load 0, Zero 0, Push 1, Push 2, Plus, Back", "Load 0, Zero 0, Push 3, Back"},
		{"the first is jumped to, and is the last one's target", "Push 1, Push 2, Plus, Store 1, Load 0, Zero 0, Push 4, Back", "Push 3, Store 1, Load 0, Zero 0, Push 4, Back"},
		{"a jump that falls away led to the third", "Push 1, Push 2, Push 1, Zero 4, Plus, Back", "Push 3, Back"},

		{"a Jump to itself", "Jump 0", ""},
		{"round behind something", "Load 0, Say, Jump 2", ""},
		{"round for ever or not", "Load 0, Zero 4, Push 1, Back, Jump 4", ""},
		{"nothing is left of the loop", "Push 1, Pop, Jump 0", "Jump 0"},
		{"a loop that is always gone", "Push 0, Zero 0, Push 1, Back", "Jump 0"},
		{"other instructions", "Load 0, Say, Load 0, Must, From, High, Hand, Load 0, Load 1, Stow 2, Load 0, Seek 2, Load 1, Enter 1, Back", ""},
		{"an ask", "Me, Load 0, Push 0, Push 100, Reach 1 1, Must, Back", ""},
	} {
		if x.to == "" {
			x.to = x.from
		}
		if got := words(tidied(t, one(x.from)).Pieces[0].Body); got != x.to {
			t.Errorf("Y1, Y2: %s: %s, tidied, is %s, not %s", x.why, x.from, got, x.to)
		}
	}
}

// Y2: each operator, of numbers that make a number and of others.
func TestOperators(t *testing.T) {
	for from, to := range map[string]string{
		"Push 2, Push 3, Plus": "Push 5", "Push 3, Push 2, Minus": "Push 1", "Push 2, Push 3, Times": "Push 6", "Push 7, Push 2, Over": "Push 3", "Push 7, Push 2, Rest": "Push 1",
		"Push 2, Push 2, Same": "Push 1", "Push 2, Push 3, Same": "Push 0", "Push 2, Push 3, Under": "Push 1", "Push 3, Push 3, Under": "Push 0", "Push 3, Push 2, Above": "Push 1", "Push 2, Push 3, Above": "Push 0",
		"Push 2, Push 2, Minus": "Push 0", "Push 2, Push 3, Minus": "", "Push 7, Push 0, Over": "", "Push 7, Push 0, Rest": "", "Push 0, Push 7, Over": "Push 0", "Push 0, Push 7, Rest": "Push 0", "Push 0, Push 0, Times": "Push 0",
		"Push 1099511627775, Push 0, Plus": "Push 1099511627775", "Push 1099511627775, Push 1, Plus": "", "Push 549755813888, Push 549755813887, Plus": "Push 1099511627775",
		"Push 1048576, Push 1048576, Times": "", "Push 1048576, Push 1048575, Times": "Push 1099510579200", "Push 1099511627775, Push 1099511627775, Times": "", "Push 1099511627775, Push 1, Times": "Push 1099511627775",
		// What is no operator of two numbers stays.
		"Push 3, Push 2, Stow 0, Load 0": "", "Push 3, Push 0, Hand, Load 0": "", "Push 3, Push 2, Enter 1": "", "Push 3, Must, Load 0": "", "Push 3, Say, Load 0": "", "Push 3, Purse": "", "Push 3, Seek 0": "", "Push 3, Store 0, Load 0": "",
	} {
		if to == "" {
			to = from
		}
		if got := words(tidied(t, one(from+", Back")).Pieces[0].Body); got != to+", Back" {
			t.Errorf("Y2: %s, tidied, is %s, not %s", from, got, to)
		}
	}
}

// Y2: three Jumps, in all ways that they may lead, and jumps to each of them: what is tidied may run and is tidy, be they such that go round for ever or not.
func TestRoundForEver(t *testing.T) {
	for n := range 4 * 4 * 4 {
		three := fmt.Sprintf(", Jump %d, Jump %d, Jump %d, Load 0, Back", 6+n%4, 6+n/4%4, 6+n/16)
		for _, beginning := range []string{
			"Load 0, Zero 6, Load 1, Zero 7, Load 2, Zero 8",
			"Jump 6, Load 1, Zero 6, Load 0, Zero 8, Jump 7",
			"Load 0, Zero 8, Load 1, Zero 8, Jump 5, Jump 7",
			"Load 0, Zero 7, Jump 6, Jump 7, Jump 8, Jump 9",
		} {
			tidied(t, one(beginning+three))
		}
	}
}

// Y1: what code.Check says, and nothing with it.
func TestWrong(t *testing.T) {
	wrong := []api.Code{
		{Pieces: make([]api.Piece, api.MaxFns+1)},
		{Pieces: []api.Piece{{Locals: api.MaxLocals + 1, Body: instrs("Push 1, Back")}}},
		{Pieces: []api.Piece{{Params: 9, Locals: 9, Body: instrs("Push 1, Back")}}},
		{Pieces: []api.Piece{{Body: make([]api.Instr, api.MaxCode+1)}}},
		{Pieces: []api.Piece{{}}},
		{Pieces: []api.Piece{{Body: instrs("Push 1, Back")}, {Params: 1, Body: instrs("Push 1, Back")}}},
		{Names: []string{"a"}, Pieces: []api.Piece{{Name: "f", Body: instrs("Push 1, Back, Jump 3")}}},
	}
	for _, s := range []string{"Back", "Push 1", "Push -1, Back", "Push 1099511627776, Back", "Jump 1", "Jump -1", "Push 1, Push 2, Plus", "Push 1, Zero 0", "Load 9, Back", "Reach 0 7, Back", "Push 1, Push 1, Back", "Plus, Back"} {
		wrong = append(wrong, one(s))
	}
	for _, c := range wrong {
		want := code.Check(c)
		if want == api.OK {
			t.Fatalf("code that is to be wrong may run: %v", c)
		}
		y, e := tidy.Tidy(c)
		if e != want || len(y.Pieces) > 0 || len(y.Names) > 0 {
			t.Errorf("Y1: Tidy of %v: %v, %d, not %d", c, y, e, want)
		}
	}
}

// Y1: code without pieces, and one with as many and as long ones as may be.
func TestEdges(t *testing.T) {
	tidied(t, api.Code{})
	tidied(t, api.Code{Names: []string{"", "a", "a"}})
	long := func(begin string, n int, unit, end string) string {
		return begin + strings.Repeat(unit+", ", n) + end
	}
	full := api.Code{}
	bodies := []struct{ from, to string }{
		{long("Push 1, ", 1023, "Push 1, Plus", "Back"), "Push 1024, Back"},
		{long("Load 0, ", 1023, "Push 1, Plus", "Back"), ""},
		{long("", 1023, "Push 1, Zero 2046", "Push 1, Back"), "Push 1, Back"},
		{long("", 1023, "Push 0, Zero 2046", "Push 1, Back"), "Push 1, Back"},
		{long("", 1023, "Load 0, Zero 2046", "Push 1, Back"), ""},
		{long("", 2046, "Jump 2046", "Push 1, Back"), "Push 1, Back"},
		{long("", 682, "Load 0, Zero 2046, Jump 0", "Push 1, Back"), "Load 0, Zero 3, Jump 0, Push 1, Back"},
		{long("Push 0, ", 2046, "Flip", "Back"), "Push 0, Back"},
		{long("", 1023, "Me, Pop", "Me, Back"), "Me, Back"},
	}
	for k := range api.MaxFns {
		full.Pieces = append(full.Pieces, api.Piece{Params: 1, Locals: 3, Body: instrs(bodies[k%len(bodies)].from)})
	}
	y := tidied(t, full)
	for k, p := range y.Pieces {
		want := bodies[k%len(bodies)]
		if want.to == "" {
			want.to = want.from
		}
		if got := words(p.Body); got != want.to {
			t.Errorf("Y2: the long one %d, tidied, has %d instructions: %.80s", k, len(p.Body), got)
		}
	}
}

// Y2: as many Jumps as may be, each to the next, each to the one ahead, and in a ring.
func TestLongChains(t *testing.T) {
	down, up, ring := make([]api.Instr, 2046), make([]api.Instr, 2046), make([]api.Instr, 2046)
	for at := range 2046 {
		down[at] = api.Instr{Op: api.Jump, A: at + 1}
		up[at] = api.Instr{Op: api.Jump, A: max(at-1, 1)}
		ring[at] = api.Instr{Op: api.Jump, A: (at + 5) % 2046}
	}
	up[0].A, up[1].A = 2045, 2046
	for _, x := range []struct {
		what string
		body []api.Instr
		want string
	}{{"down", down, "Push 7, Back"}, {"up", up, "Push 7, Back"}, {"in a ring", ring, "Jump 0"}} {
		c := api.Code{Pieces: []api.Piece{{Body: append(x.body, instrs("Push 7, Back")...)}}}
		if got := words(tidied(t, c).Pieces[0].Body); got != x.want {
			t.Errorf("Y2: Jumps %s: %.80s", x.what, got)
		}
	}
}

// P2: what comes out is fresh: neither the code nor another answer shares it.
func TestFresh(t *testing.T) {
	c := one("Push 1, Push 2, Plus, Back")
	x, _ := tidy.Tidy(c)
	y, _ := tidy.Tidy(x)
	want := fmt.Sprint(y)
	for _, z := range []api.Code{c, x} {
		z.Names[0] = "other"
		for k := range z.Pieces {
			clear(z.Pieces[k].Body[:cap(z.Pieces[k].Body)])
		}
		clear(z.Pieces)
	}
	if fmt.Sprint(y) != want {
		t.Errorf("P2: what was tidied changes with what it was made of: %v", y)
	}
	same := api.Code{Pieces: []api.Piece{{Body: instrs("Load 0, Back"), Locals: 1}, {Body: instrs("Load 0, Back"), Locals: 1}}}
	same.Pieces[1].Body = same.Pieces[0].Body
	z := tidied(t, same)
	z.Pieces[0].Body[0].Op = api.Me
	if z.Pieces[1].Body[0].Op == api.Me || same.Pieces[0].Body[0].Op == api.Me {
		t.Error("P2: two bodies share memory")
	}
	_ = append(z.Pieces[0].Body, api.Instr{Op: api.Say})
	if words(z.Pieces[1].Body) != "Load 0, Back" {
		t.Error("P2: a body reaches into another")
	}
}

// Y1, Y2: what is compiled.
func TestCompiled(t *testing.T) {
	for text, want := range map[string]string{
		"if 2 < 3 { return 4 + 5; } return 0;":                           "Push 9, Back",
		"while false { note 1; } return 1;":                              "Push 1, Back",
		"while true { note 1; } return 1;":                               "Push 1, Say, Jump 0",
		"let x: num = 3 * (4 + 5) % 7; return x;":                        "Push 6, Store 1, Load 1, Back",
		"need true and not false; return a;":                             "Push 1, Must, Load 0, Back",
		"if a < 2 { return 1; } else { if 1 > 2 { note 5; } } return 2;": "Load 0, Push 2, Under, Zero 6, Push 1, Back, Push 2, Back",
		"return 1 - 2;": "Push 1, Push 2, Minus, Back",
	} {
		c, e := script.Parse("contract c { open fn f(a: num) -> num { " + text + " } }")
		x, f := compile.Compile(c)
		if e != api.OK || f != api.OK {
			t.Fatalf("%s: %d, %d", text, e, f)
		}
		if got := words(tidied(t, x).Pieces[0].Body); got != want {
			t.Errorf("Y2: %s: %s, tidied %s, not %s", text, words(x.Pieces[0].Body), got, want)
		}
	}
}

package compile_test

import (
	"fmt"
	"strings"
	"testing"

	"assize/api"
	"assize/code"
	"assize/compile"
	"assize/kinds"
	"assize/script"
)

// shown: "Load 0, Push 10, Under": A where it names something, B of Reach.
func shown(l []api.Instr) string {
	var all []string
	for _, i := range l {
		s := opNames[i.Op]
		switch i.Op {
		case api.Push, api.Load, api.Store, api.Jump, api.Zero, api.Enter, api.Read, api.Write, api.Seek, api.Stow:
			s += fmt.Sprint(" ", i.A)
		case api.Reach:
			s += fmt.Sprint(" ", i.A, " ", i.B)
		default:
			if i.A != 0 {
				s += fmt.Sprint(" ", i.A, "!")
			}
		}
		if i.Op != api.Reach && i.B != 0 {
			s += fmt.Sprint(" ", i.B, "!")
		}
		all = append(all, s)
	}
	return strings.Join(all, ", ")
}

func parsed(t *testing.T, text string) api.Contract {
	t.Helper()
	c, e := script.Parse(text)
	if e != api.OK {
		t.Fatalf("Parse(%q): %d", text, e)
	}
	return c
}

func compiled(t *testing.T, text string) api.Code {
	t.Helper()
	x, e := compile.Compile(parsed(t, text))
	if e != api.OK {
		t.Fatalf("C3: Compile of %q: %d", text, e)
	}
	return x
}

// around: slots 0 to 2, maps 3 to 5, functions 0 to 2, and a function t, 3, with locals 0 to 2 of all kinds.
const around = "contract c { slot sn: num; slot sf: flag; slot sw: who; map mn: num -> num; map mf: who -> flag; map mw: flag -> who; " +
	"fn gn() -> num { return 1; } fn gf(a: num, b: flag, c: who) -> flag { return b; } fn gw(a: who) -> who { return a; } "

// body: what steps become, behind which Push 0, Back is cut off.
func body(t *testing.T, steps string) (string, api.Code) {
	t.Helper()
	x := compiled(t, around+"open fn t(pn: num, pf: flag, pw: who) -> num { "+steps+" return 0; } }")
	s := shown(x.Pieces[3].Body)
	cut, ok := strings.CutSuffix(s, "Push 0, Back")
	if !ok {
		t.Fatalf("C4: %q does not end with its return: %s", steps, s)
	}
	return strings.TrimSuffix(cut, ", "), x
}

func TestExamples(t *testing.T) {
	x := compiled(t, "contract c { slot n: num; open fn add(a: num) -> num { need a < 10; n = n + a; return n; } }")
	if s := shown(x.Pieces[0].Body); s != "Load 0, Push 10, Under, Must, Read 0, Load 0, Plus, Write 0, Read 0, Back" {
		t.Errorf("C4: example 4: %s", s)
	}
	x = compiled(t, "contract c { fn f() -> num { if 2 < 3 { return 4 + 5; } return 0; } }")
	if s := shown(x.Pieces[0].Body); s != "Push 2, Push 3, Under, Zero 8, Push 4, Push 5, Plus, Back, Push 0, Back" {
		t.Errorf("C4: example 5: %s", s)
	}
}

// C4: each expression, as the argument of a note, a need, or of what wants a who.
func TestExpressions(t *testing.T) {
	for _, x := range []struct{ kind, text, want string }{
		{"num", "0", "Push 0"}, {"num", "7", "Push 7"}, {"num", "1099511627775", "Push 1099511627775"},
		{"flag", "true", "Push 1"}, {"flag", "false", "Push 0"},
		{"num", "pn", "Load 0"}, {"flag", "pf", "Load 1"}, {"who", "pw", "Load 2"},
		{"num", "sn", "Read 0"}, {"flag", "sf", "Read 1"}, {"who", "sw", "Read 2"},
		{"num", "mn[7]", "Push 7, Seek 3"}, {"flag", "mf[pw]", "Load 2, Seek 4"}, {"who", "mw[true]", "Push 1, Seek 5"}, {"num", "mn[mn[1]]", "Push 1, Seek 3, Seek 3"},
		{"num", "gn()", "Enter 0"}, {"flag", "gf(pn, pf, pw)", "Load 0, Load 1, Load 2, Enter 1"}, {"who", "gw(gw(self))", "Me, Enter 2, Enter 2"}, {"num", "t(1, true, self)", "Push 1, Push 1, Me, Enter 3"},
		{"who", "self", "Me"}, {"who", "caller", "From"}, {"num", "value", "Paid"}, {"num", "height", "High"},
		{"num", "balance(self)", "Me, Purse"}, {"who", "who(pn)", "Load 0"}, {"num", "num(pw)", "Load 2"}, {"who", "who(num(who(9)))", "Push 9"},
		{"flag", "not pf", "Load 1, Flip"}, {"flag", "not not pf", "Load 1, Flip, Flip"},
		{"num", "1 + 2", "Push 1, Push 2, Plus"}, {"num", "1 - 2", "Push 1, Push 2, Minus"}, {"num", "1 * 2", "Push 1, Push 2, Times"},
		{"num", "1 / 2", "Push 1, Push 2, Over"}, {"num", "1 % 2", "Push 1, Push 2, Rest"},
		{"num", "1 - 2 - 3", "Push 1, Push 2, Minus, Push 3, Minus"}, {"num", "1 - (2 - 3)", "Push 1, Push 2, Push 3, Minus, Minus"},
		{"flag", "1 == 2", "Push 1, Push 2, Same"}, {"flag", "1 != 2", "Push 1, Push 2, Same, Flip"}, {"flag", "1 < 2", "Push 1, Push 2, Under"},
		{"flag", "1 <= 2", "Push 1, Push 2, Above, Flip"}, {"flag", "1 > 2", "Push 1, Push 2, Above"}, {"flag", "1 >= 2", "Push 1, Push 2, Under, Flip"},
		{"flag", "pf or sf", "Load 1, Zero 4, Push 1, Jump 5, Read 1"},
		{"flag", "pf and sf", "Load 1, Zero 4, Read 1, Jump 5, Push 0"},
		{"flag", "pf or sf or true", "Load 1, Zero 4, Push 1, Jump 5, Read 1, Zero 8, Push 1, Jump 9, Push 1"},
		{"flag", "pf and sf and true", "Load 1, Zero 4, Read 1, Jump 5, Push 0, Zero 8, Push 1, Jump 9, Push 0"},
		{"flag", "pf or sf and true", "Load 1, Zero 4, Push 1, Jump 9, Read 1, Zero 8, Push 1, Jump 9, Push 0"},
		{"flag", "(pf or sf) and 1 < 2", "Load 1, Zero 4, Push 1, Jump 5, Read 1, Zero 10, Push 1, Push 2, Under, Jump 11, Push 0"},
		{"flag", "1 < 2 or pf", "Push 1, Push 2, Under, Zero 6, Push 1, Jump 7, Load 1"},
	} {
		step, last := map[string]string{"num": "note |;", "flag": "need |;", "who": "pay |, 5;"}[x.kind], map[string]string{"num": "Say", "flag": "Must", "who": "Push 5, Hand"}[x.kind]
		if got, _ := body(t, strings.Replace(step, "|", x.text, 1)); got != x.want+", "+last {
			t.Errorf("C4: %s: %s, not %s, %s", x.text, got, x.want, last)
		}
	}
}

func TestSteps(t *testing.T) {
	for _, x := range []struct{ text, want string }{
		{"", ""},
		{"let x: num = pn;", "Load 0, Store 3"},
		{"let x: num = 1; let y: flag = x == 2; y = not y;", "Push 1, Store 3, Load 3, Push 2, Same, Store 4, Load 4, Flip, Store 4"},
		{"pn = 4;", "Push 4, Store 0"}, {"pw = self;", "Me, Store 2"}, {"sn = 4;", "Push 4, Write 0"}, {"sw = self;", "Me, Write 2"},
		{"mn[1] = 2;", "Push 1, Push 2, Stow 3"}, {"mw[pf] = pw;", "Load 1, Load 2, Stow 5"},
		{"need pf;", "Load 1, Must"}, {"note 3;", "Push 3, Say"}, {"pay pw, pn;", "Load 2, Load 0, Hand"},
		{"ask pf, pn = pw.f() value 1 gas 2;", "Load 2, Push 1, Push 2, Reach 0 0, Store 1, Store 0"},
		{"ask pf, pn = pw.f(7, self, true) value 1 gas 2;", "Load 2, Push 7, Me, Push 1, Push 1, Push 2, Reach 3 0, Store 1, Store 0"},
		{"ask pf, pn = who(9).f(1, 2, 3, 4, 5, 6, 7, 8) value sn gas height;", "Push 9, Push 1, Push 2, Push 3, Push 4, Push 5, Push 6, Push 7, Push 8, Read 0, High, Reach 8 0, Store 1, Store 0"},
		{"ask pf, pn = self.f() value 1 gas 2; ask pf, pn = self.g() value 1 gas 2; ask pf, pn = self.f() value 1 gas 2;",
			"Me, Push 1, Push 2, Reach 0 0, Store 1, Store 0, Me, Push 1, Push 2, Reach 0 1, Store 1, Store 0, Me, Push 1, Push 2, Reach 0 0, Store 1, Store 0"},
		{"if pf { note 1; }", "Load 1, Zero 4, Push 1, Say"},
		{"if pf { }", "Load 1, Zero 2"}, {"if pf { } else { }", "Load 1, Zero 2"}, {"if pf { note 1; } else { }", "Load 1, Zero 4, Push 1, Say"},
		{"if pf { } else { note 1; }", "Load 1, Zero 3, Jump 5, Push 1, Say"},
		{"if pf { note 1; } else { note 2; }", "Load 1, Zero 5, Push 1, Say, Jump 7, Push 2, Say"},
		{"if pf { return 1; }", "Load 1, Zero 4, Push 1, Back"},
		{"if pf { return 1; } else { note 2; }", "Load 1, Zero 4, Push 1, Back, Push 2, Say"},
		{"if pf { note 1; } else { return 2; }", "Load 1, Zero 5, Push 1, Say, Jump 7, Push 2, Back"},
		{"if pf { if sf { return 1; } else { return 2; } } else { note 3; }", "Load 1, Zero 8, Read 1, Zero 6, Push 1, Back, Push 2, Back, Push 3, Say"},
		{"if pf { if sf { return 1; } } else { note 3; }", "Load 1, Zero 7, Read 1, Zero 6, Push 1, Back, Jump 9, Push 3, Say"},
		{"if pf { if sf { return 1; } else { note 2; } } else { note 3; }", "Load 1, Zero 9, Read 1, Zero 6, Push 1, Back, Push 2, Say, Jump 11, Push 3, Say"},
		{"if pf { while sf { return 1; } } else { note 3; }", "Load 1, Zero 8, Read 1, Zero 7, Push 1, Back, Jump 2, Jump 10, Push 3, Say"},
		{"while pf { note 1; }", "Load 1, Zero 5, Push 1, Say, Jump 0"},
		{"while pf { }", "Load 1, Zero 3, Jump 0"},
		{"note 9; while pf or sf { note 1; }", "Push 9, Say, Load 1, Zero 6, Push 1, Jump 7, Read 1, Zero 11, Push 1, Say, Jump 2"},
		{"while pf { return 1; }", "Load 1, Zero 5, Push 1, Back, Jump 0"},
		{"while pf { if sf { return 1; } else { return 2; } }", "Load 1, Zero 9, Read 1, Zero 6, Push 1, Back, Push 2, Back, Jump 0"},
		{"while pf { while sf { note 1; } }", "Load 1, Zero 8, Read 1, Zero 7, Push 1, Say, Jump 2, Jump 0"},
	} {
		if got, _ := body(t, x.text); got != x.want {
			t.Errorf("C4: %s: %s, not %s", x.text, got, x.want)
		}
	}
}

// C4: a let is numbered by what is visible ahead of it; Locals are those that were visible at once.
func TestLocals(t *testing.T) {
	for _, x := range []struct {
		text, want string
		locals     int
	}{
		{"", "", 3},
		{"let a: num = 1;", "Push 1, Store 3", 4},
		{"if pf { let a: num = 1; } let b: num = 2;", "Load 1, Zero 4, Push 1, Store 3, Push 2, Store 3", 4},
		{"if pf { let a: num = 1; note a; } else { let a: num = 2; let b: num = a; }", "Load 1, Zero 7, Push 1, Store 3, Load 3, Say, Jump 11, Push 2, Store 3, Load 3, Store 4", 5},
		{"let a: num = 1; while pf { let b: num = a; let d: num = b; } let e: num = a; note e;", "Push 1, Store 3, Load 1, Zero 9, Load 3, Store 4, Load 4, Store 5, Jump 2, Load 3, Store 4, Load 4, Say", 6},
		{"if pf { let a: num = 1; if sf { let b: num = 1; } let d: num = 3; d = a; } let a: num = 2;",
			"Load 1, Zero 12, Push 1, Store 3, Read 1, Zero 8, Push 1, Store 4, Push 3, Store 4, Load 3, Store 4, Push 2, Store 3", 5},
		{"let a: flag = true; let b: num = 1; ask a, b = self.f(a, b) value b gas b;", "Push 1, Store 3, Push 1, Store 4, Me, Load 3, Load 4, Load 4, Load 4, Reach 2 0, Store 3, Store 4", 5},
	} {
		got, made := body(t, x.text)
		if got != x.want || made.Pieces[3].Locals != x.locals {
			t.Errorf("C4: %s: %s, with %d locals, not %s, with %d", x.text, got, made.Pieces[3].Locals, x.want, x.locals)
		}
	}
}

// C3, C4: pieces in the order of the functions; variables in the order of slots, then maps, however the text has them; names through all of it.
func TestWhole(t *testing.T) {
	x := compiled(t, "contract c { map m: num -> num; fn b(x: num, y: flag) -> num { let ok: flag = y; ask ok, x = self.zz() value 0 gas 0; ask ok, x = self.aa(1) value 0 gas 0; return s + m[x] + k[r]; } "+
		"slot s: num; open fn a() -> num { let ok: flag = true; let x: num = 0; ask ok, x = self.aa() value 0 gas 0; ask ok, x = self.b() value 0 gas 0; ask ok, x = self.zz() value 0 gas 0; return b(1, ok); } map k: num -> num; slot r: num; }")
	want := "{[{b false 2 3 [{3 1 0} {4 2 0} {22 0 0} {1 0 0} {1 0 0} {30 0 0} {4 2 0} {4 0 0} {22 0 0} {1 1 0} {1 0 0} {1 0 0} {30 1 1} {4 2 0} {4 0 0} {18 0 0} {3 0 0} {20 2 0} {5 0 0} {18 1 0} {20 3 0} {5 0 0} {17 0 0}]} " +
		"{a true 0 2 [{1 1 0} {4 0 0} {1 0 0} {4 1 0} {22 0 0} {1 0 0} {1 0 0} {30 0 1} {4 0 0} {4 1 0} {22 0 0} {1 0 0} {1 0 0} {30 0 2} {4 0 0} {4 1 0} {22 0 0} {1 0 0} {1 0 0} {30 0 0} {4 0 0} {4 1 0} {1 1 0} {3 0 0} {16 0 0} {17 0 0}]}] [zz aa b]}"
	if got := fmt.Sprint(x); got != want {
		t.Errorf("C4: %s, not %s", got, want)
	}
	if got := fmt.Sprint(compiled(t, "contract c { slot s: num; map m: who -> who; }")); got != "{[] []}" {
		t.Errorf("C3: without functions: %s", got)
	}
}

// C3: what kinds.Check says, and then nothing else.
func TestWhatKindsSays(t *testing.T) {
	bad := []api.Contract{{}, {Name: "if"}, {Name: "c", Fns: []api.Fn{{Name: "f", Type: 9}}}, {Name: "c", Fns: []api.Fn{{Name: "f", Type: 1}}}, {Name: "c", Slots: make([]api.Param, 33)}}
	for _, s := range []string{
		"slot a: num; slot a: num;", "fn f() -> num { return true; }", "fn f() -> num { return x; }", "fn f() -> num { return f(1); }", "fn f() -> num { }",
		"fn f() -> num { return 1; note 1; }", "fn f(a: num, a: num) -> num { return 1; }", "fn f() -> num { if true { return 1; } }", "fn f() -> num { f = 1; return 1; }",
	} {
		bad = append(bad, parsed(t, "contract c { "+s+" }"))
	}
	for _, c := range bad {
		want := kinds.Check(c)
		x, e := compile.Compile(c)
		if e != want || want == api.OK || len(x.Pieces) > 0 || len(x.Names) > 0 {
			t.Errorf("C3: %+v: %v and %d, not nothing and %d", c, x, e, want)
		}
	}
}

// nested: calls within calls: with 7 a level the stack grows by 7.
func nested(deep, rest int) string {
	inner := "0"
	for range deep {
		inner = "g(1, 2, 3, 4, 5, 6, 7, " + inner + ")"
	}
	return "contract c { fn g(a: num, b: num, c: num, d: num, e: num, h: num, i: num, j: num) -> num { return a; } fn f() -> num { return " +
		strings.Repeat("1 + (", rest) + inner + strings.Repeat(")", rest) + "; } }"
}

// C3: contracts that may be, and whose code may not: more locals or numbers on the stack than there may be.
func TestTooMuch(t *testing.T) {
	lets := func(n int, around string) string {
		s := ""
		for i := range n {
			s += fmt.Sprint("let v", i, ": num = 1; ")
		}
		return "contract c { fn f(a: num, b: num) -> num { " + strings.Replace(around, "|", s, 1) + " return 1; } }"
	}
	many := ""
	for i := range 5 {
		many += fmt.Sprint("if true { let a", i, ": num = 1; let b", i, ": num = 1; let c", i, ": num = 1; let d", i, ": num = 1; let e", i, ": num = 1; let f", i, ": num = 1; let g", i, ": num = 1; } ")
	}
	for _, x := range []struct {
		why, text string
		want      api.Errno
	}{
		{"32 locals", lets(30, "|"), api.OK}, {"33 locals", lets(31, "|"), api.ErrLimit},
		{"33 locals in a block", lets(31, "if true { | }"), api.ErrLimit}, {"33 locals in an else", lets(31, "if true { } else { | }"), api.ErrLimit}, {"33 locals in a loop", lets(31, "while true { | }"), api.ErrLimit},
		{"35 locals, not at once", "contract c { fn f() -> num { " + many + " return 1; } }", api.OK},
		{"a stack of 64", nested(9, 0), api.OK}, {"a stack of 65", nested(9, 1), api.ErrLimit}, {"a stack of 71", nested(10, 0), api.ErrLimit}, {"a stack of 63", nested(8, 6), api.OK}, {"a stack of 65 by sums", nested(8, 8), api.ErrLimit}, {"a stack of 64 by sums", nested(8, 7), api.OK},
	} {
		c := parsed(t, x.text)
		if e := kinds.Check(c); e != api.OK {
			t.Errorf("%s: kinds says %d", x.why, e)
		}
		got, e := compile.Compile(c)
		if e != x.want {
			t.Errorf("C3: %s: %d, not %d", x.why, e, x.want)
		}
		if e != api.OK && (len(got.Pieces) > 0 || len(got.Names) > 0) {
			t.Errorf("P1: %s: %d, and beside it %v", x.why, e, got)
		}
		if (code.Check(oracle(c)) == api.OK) != (x.want == api.OK) {
			t.Errorf("%s: the oracle's code: %d", x.why, code.Check(oracle(c)))
		}
	}
}

// P2: an answer is nobody else's: what is written into it is not seen in the next one, nor in the contract.
func TestFresh(t *testing.T) {
	c := parsed(t, around+"fn t(a: flag, b: num) -> num { ask a, b = self.f() value 1 gas 1; ask a, b = self.g() value 1 gas 1; return b; } }")
	contract := fmt.Sprintf("%+v", c)
	first, _ := compile.Compile(c)
	want := fmt.Sprint(first)
	for i := range first.Pieces {
		p := &first.Pieces[i]
		whole := fmt.Sprint(first.Pieces[:i], first.Pieces[i+1:])
		_ = append(p.Body, api.Instr{Op: 9, A: 9, B: 9})
		for k := range p.Body {
			p.Body[k] = api.Instr{Op: 99}
		}
		if fmt.Sprint(first.Pieces[:i], first.Pieces[i+1:]) != whole {
			t.Errorf("P2: the body of the piece %d shares memory with another", i)
		}
	}
	first.Names[0] = "x"
	if got, _ := compile.Compile(c); fmt.Sprint(got) != want || fmt.Sprintf("%+v", c) != contract {
		t.Errorf("P2: the second answer is %v, not %s", got, want)
	}
}

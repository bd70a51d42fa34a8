package kinds_test

import (
	"fmt"
	"strings"
	"testing"

	"assize/api"
	"assize/kinds"
	"assize/script"
)

// mustBe: what Check says of a text's contract; and it leaves the contract as it was.
func mustBe(t *testing.T, why, text string, want api.Errno) {
	t.Helper()
	c, e := script.Parse(text)
	if e != api.OK {
		t.Fatalf("%s: Parse(%q): %d", why, text, e)
	}
	before := fmt.Sprintf("%+v", c)
	if got := kinds.Check(c); got != want {
		t.Errorf("%s: Check of %q: %d, not %d", why, text, got, want)
	}
	if fmt.Sprintf("%+v", c) != before {
		t.Errorf("P2: Check of %q changes it", text)
	}
}

// around: variables and functions of all kinds, and a function t with parameters of all kinds.
const around = "contract c { slot sn: num; slot sf: flag; slot sw: who; map mn: num -> num; map mf: who -> flag; map mw: flag -> who; " +
	"fn gn() -> num { return 1; } fn gf(a: num, b: flag, c: who) -> flag { return b; } fn gw(a: who) -> who { return a; } "

// steps: what Check says of steps, with a return behind them.
func steps(t *testing.T, why, steps string, want api.Errno) {
	t.Helper()
	mustBe(t, why, around+"fn t(pn: num, pf: flag, pw: who) -> num { "+steps+" return 1; } }", want)
}

// expression: what Check says of an expression, as a step that takes any kind.
func expression(t *testing.T, why, x string, want api.Errno) {
	t.Helper()
	steps(t, why, "ask pf, pn = pw.any("+x+") value 1 gas 1;", want)
}

// valued: expressions of each kind.
var valued = map[int][]string{
	api.Num: {"0", "7", "value", "height", "num(self)", "balance(caller)", "1 + 2", "1 - 2", "1 * 2", "1 / 2", "1 % 2", "pn", "sn", "mn[3]", "gn()"},
	api.Flag: {"true", "false", "not true", "true or false", "true and false", "1 == 2", "1 != 2", "1 < 2", "1 <= 2", "1 > 2", "1 >= 2",
		"true == false", "self != caller", "pf", "sf", "mf[self]", "gf(1, true, self)"},
	api.Who: {"self", "caller", "who(3)", "pw", "sw", "mw[true]", "gw(self)"},
}

func fits(is, wanted int) api.Errno {
	if is != wanted {
		return api.ErrKind
	}
	return api.OK
}

// K3: each place that wants a kind, and each expression of each kind there.
func TestWhatIsWanted(t *testing.T) {
	for is, l := range valued {
		for _, x := range l {
			for wanted, places := range map[int][]string{
				api.Num: {"let v: num = |;", "sn = |;", "pn = |;", "let v: num = 1; v = |;", "mn[|] = 1;", "mn[1] = |;", "mn[2] = mn[|];", "return |;", "note |;", "pay self, |;",
					"ask pf, pn = pw.any() value | gas 1;", "ask pf, pn = pw.any() value 1 gas |;", "pf = gf(|, true, self);", "pw = who(|);", "if true { return |; }"},
				api.Flag: {"let v: flag = |;", "sf = |;", "pf = |;", "mf[self] = |;", "mw[|] = self;", "pw = mw[|];", "if | { }", "while | { }", "need |;", "pf = gf(1, |, self);", "pf = not |;"},
				api.Who: {"let v: who = |;", "sw = |;", "pw = |;", "mf[|] = true;", "pf = mf[|];", "mw[true] = |;", "pay |, 1;", "ask pf, pn = |.any() value 1 gas 1;", "pn = balance(|);", "pn = num(|);",
					"pf = gf(1, true, |);", "pw = gw(|);"},
			} {
				for _, p := range places {
					// A return that is followed by t's own would be an end of its own.
					if strings.HasPrefix(p, "return") {
						mustBe(t, "K3", around+"fn t(pn: num, pf: flag, pw: who) -> num { "+strings.Replace(p, "|", x, 1)+" } }", fits(is, wanted))
						continue
					}
					steps(t, "K3", strings.Replace(p, "|", "("+x+")", 1), fits(is, wanted))
				}
			}
		}
	}
}

// K3: what a function gives is of its own kind.
func TestReturns(t *testing.T) {
	names := []string{"", "num", "flag", "who"}
	for wanted := api.Num; wanted <= api.Who; wanted++ {
		for is, l := range valued {
			for _, x := range l {
				mustBe(t, "K3", around+"fn t(pn: num, pf: flag, pw: who) -> "+names[wanted]+" { return "+x+"; } }", fits(is, wanted))
			}
		}
	}
	// The next function gives another kind.
	mustBe(t, "K3", "contract c { fn f() -> num { return 1; } fn g() -> flag { return true; } fn h() -> who { return self; } }", api.OK)
	mustBe(t, "K3", "contract c { fn f() -> num { return 1; } fn g() -> flag { return 1; } }", api.ErrKind)
	mustBe(t, "K3", "contract c { fn f() -> num { return 1; } fn g() -> flag { if true { return true; } else { return 1; } } }", api.ErrKind)
}

// K3: operators of two with both sides of all kinds; and what kind they are of.
func TestOperators(t *testing.T) {
	sample := map[int]string{api.Num: "pn", api.Flag: "pf", api.Who: "pw"}
	for _, o := range []struct {
		signs     string
		wants, is int // wants 0: two of one kind
	}{{"or and", api.Flag, api.Flag}, {"== !=", 0, api.Flag}, {"< <= > >=", api.Num, api.Flag}, {"+ - * / %", api.Num, api.Num}} {
		for _, sign := range strings.Fields(o.signs) {
			for left, x := range sample {
				for right, y := range sample {
					want := api.ErrKind
					if left == right && (o.wants == 0 || left == o.wants) {
						want = api.OK
					}
					expression(t, "K3", x+" "+sign+" "+y, want)
					if want == api.OK {
						steps(t, "K3", "pf = "+x+" "+sign+" "+y+";", fits(o.is, api.Flag))
						steps(t, "K3", "pn = "+x+" "+sign+" "+y+";", fits(o.is, api.Num))
						steps(t, "K3", "pw = "+x+" "+sign+" "+y+";", api.ErrKind)
					}
				}
			}
		}
	}
}

// K3: of ask any argument.
func TestArgumentsOfAsk(t *testing.T) {
	for _, l := range valued {
		for _, x := range l {
			expression(t, "K3", x, api.OK)
			expression(t, "K3", "1, true, self, "+x, api.OK)
		}
	}
	expression(t, "K3", "", api.OK)
	expression(t, "K3", "1 + true", api.ErrKind)
	expression(t, "K3", "1, self, who(true)", api.ErrKind)
	expression(t, "K3", "1, nothing", api.ErrName)
	// The function that is asked is another contract's: its name may be anything.
	for _, s := range []string{"c", "t", "pn", "sn", "mn", "gf", "nothing"} {
		steps(t, "K2", "ask pf, pn = pw."+s+"() value 1 gas 1;", api.OK)
	}
}

func TestCounts(t *testing.T) {
	for x, want := range map[string]api.Errno{
		"gn()": api.OK, "gn(1)": api.ErrCount, "gn(1, 2)": api.ErrCount, "gw(self)": api.OK, "gw()": api.ErrCount, "gw(self, self)": api.ErrCount,
		"gf(1, true, self)": api.OK, "gf(1, true)": api.ErrCount, "gf()": api.ErrCount, "gf(1, true, self, 1)": api.ErrCount, "gf(1, 2, 3, 4, 5, 6, 7, 8)": api.ErrCount,
		"gf(true, true, self)": api.ErrKind, "gf(1, 1, self)": api.ErrKind, "gf(1, true, 1)": api.ErrKind, "gn() + gn(1)": api.ErrCount, "gw(gw())": api.ErrCount, "gw(gw(gw(self)))": api.OK,
		// Its own use, and that of one behind it.
		"t(1, true, self)": api.OK, "t()": api.ErrCount, "t(1, true, self) == 1": api.OK,
	} {
		expression(t, "K3", x, want)
	}
	mustBe(t, "K3: one behind", "contract c { fn f() -> num { return g(1); } fn g(a: num) -> num { return a; } }", api.OK)
	mustBe(t, "K3: one behind", "contract c { fn f() -> num { return g(); } fn g(a: num) -> num { return a; } }", api.ErrCount)
	mustBe(t, "K3: one behind", "contract c { fn f() -> num { return g(1); } fn g(a: num) -> flag { return true; } }", api.ErrKind)
	mustBe(t, "K3: one that is not open", "contract c { open fn f() -> num { return g(1); } fn g(a: num) -> num { return f(); } }", api.OK)
}

// K2: each place where a name is used, and each thing that has one.
func TestUses(t *testing.T) {
	things := map[string]string{"local": "pn pf pw", "slot": "sn sf sw", "map": "mn mf mw", "function": "gn gf gw t"}
	for _, place := range []struct{ text, may string }{
		{"ask pf, pn = pw.any(|) value 1 gas 1;", "local slot"},
		{"if sn == 1 { ask pf, pn = pw.any(1, |) value 1 gas 1; }", "local slot"},
		{"| = EXPR;", "local slot"}, {"|[EXPR] = EXPR;", "map"}, {"ask pf, pn = pw.any(|[EXPR]) value 1 gas 1;", "map"},
		{"ask pf, pn = pw.any(|(ARGS)) value 1 gas 1;", "function"},
	} {
		for what, names := range things {
			for _, name := range strings.Fields(names) {
				want := api.ErrKind
				if strings.Contains(place.may, what) {
					want = api.OK
				}
				steps(t, "K2: "+what, fillFor(name, place.text), want)
			}
		}
		for _, name := range []string{"c", "any", "nothing", "a", "p", "pnn"} {
			steps(t, "K2: nothing", fillFor(name, place.text), api.ErrName)
		}
	}
}

// K2: the same where there is nothing else that could be meant.
func TestUsesOfNothing(t *testing.T) {
	for _, s := range []string{"return x;", "return x[1];", "return x();", "x = 1; return 1;", "x[1] = 1; return 1;", "ask x, y = self.g() value 1 gas 1; return 1;"} {
		mustBe(t, "K2", "contract c { fn f() -> num { "+s+" } }", api.ErrName)
		f := strings.NewReplacer("x", "f", "y", "f").Replace(s)
		want := api.ErrKind
		if f == "return f();" {
			want = api.OK
		}
		mustBe(t, "K2", "contract c { fn f() -> num { "+f+" } }", want)
	}
}

// fillFor: a place with a name, and beside it what is right for that name.
func fillFor(name, place string) string {
	samples := map[string]string{"n": "1", "f": "true", "w": "self"}
	kind := samples[name[len(name)-1:]]
	if kind == "" {
		kind = "1"
	}
	args := map[string]string{"gf": "1, true, self", "gw": "self", "t": "1, true, self"}[name]
	if name[0] == 'm' {
		key := map[string]string{"mn": "1", "mf": "self", "mw": "true"}[name]
		place = strings.Replace(place, "[EXPR]", "["+key+"]", 1)
	}
	return strings.NewReplacer("|", name, "EXPR", kind, "ARGS", args).Replace(place)
}

// K2: behind ask stand locals alone, first a flag, then a number.
func TestNamesBehindAsk(t *testing.T) {
	all := strings.Fields("pn pf pw sn sf sw mn mf mw gn gf gw t nothing c lf ln")
	errs := func(name, may, also string) api.Errno {
		switch {
		case name == "nothing" || name == "c":
			return api.ErrName
		case name != may && name != also:
			return api.ErrKind
		}
		return api.OK
	}
	for _, a := range all {
		for _, b := range all {
			want := errs(a, "pf", "lf")
			if want == api.OK {
				want = errs(b, "pn", "ln")
			}
			steps(t, "K2", "let lf: flag = true; let ln: num = 1; ask "+a+", "+b+" = pw.any() value 1 gas 1;", want)
		}
	}
}

// K1: the names of slots, maps and functions.
func TestDoubleNames(t *testing.T) {
	items := map[string]string{"slot": "slot |: num; ", "map": "map |: num -> num; ", "fn": "fn |() -> num { return 1; } "}
	for _, a := range items {
		for _, b := range items {
			two := strings.ReplaceAll(a, "|", "x") + strings.ReplaceAll(b, "|", "x")
			mustBe(t, "K1", "contract c { "+two+"}", api.ErrDouble)
			mustBe(t, "K1", "contract c { "+strings.Replace(two, "x", "y", 1)+"}", api.OK)
			mustBe(t, "K1", "contract c { slot y: num; map z: num -> num; fn w() -> num { return 1; } "+two+"}", api.ErrDouble)
			// Ahead of what is wrong in functions, wherever these stand.
			mustBe(t, "K1", "contract c { fn w() -> num { return nothing; } "+two+"}", api.ErrDouble)
			mustBe(t, "K1", "contract c { fn w() -> num { } "+two+"}", api.ErrDouble)
		}
		mustBe(t, "K1: the contract's own name", "contract c { "+strings.ReplaceAll(a, "|", "c")+"}", api.OK)
	}
	mustBe(t, "K1", "contract c { }", api.OK)
	mustBe(t, "K1", "contract c { slot a: num; slot b: num; slot a: num; }", api.ErrDouble)
	mustBe(t, "K1", "contract c { slot a: num; slot b: num; slot aa: num; map ab: num -> num; }", api.OK)
}

// K1: what Print says stands ahead of all.
func TestWhatPrintSays(t *testing.T) {
	slot := api.Param{Name: "a", Type: api.Num}
	bad := api.Fn{Name: "f", Type: api.Num}
	deep := api.Expr{Op: api.Truth, N: 1}
	for range 40 {
		deep = api.Expr{Op: api.Not, Args: []api.Expr{deep}}
	}
	many := api.Contract{Name: "c"}
	for range 33 {
		many.Slots = append(many.Slots, slot)
	}
	long := api.Contract{Name: "c", Fns: []api.Fn{{Name: "f", Type: api.Flag, Body: []api.Stmt{}}}}
	for range 300 {
		long.Fns[0].Body = append(long.Fns[0].Body, api.Stmt{Kind: api.Give, Exprs: []api.Expr{{Op: api.Number}}})
	}
	for i, x := range []struct {
		c    api.Contract
		want api.Errno
	}{
		{api.Contract{}, api.ErrForm},
		{api.Contract{Name: "if"}, api.ErrForm},
		{api.Contract{Name: "c", Slots: []api.Param{slot, slot}, Fns: []api.Fn{{Name: "f", Type: 7}}}, api.ErrForm},
		{api.Contract{Name: "c", Slots: []api.Param{slot, slot, {Name: "", Type: 1}}, Fns: []api.Fn{bad}}, api.ErrForm},
		{api.Contract{Name: "c", Fns: []api.Fn{{Name: "f", Type: 1, Body: []api.Stmt{{Kind: api.Give}}}}}, api.ErrForm},
		{api.Contract{Name: "c", Fns: []api.Fn{{Name: "f", Type: 1, Body: []api.Stmt{{Kind: api.Give, Exprs: []api.Expr{{Op: 99}}}}}}}, api.ErrForm},
		{many, api.ErrLimit},
		{long, api.ErrLimit},
		{api.Contract{Name: "c", Slots: []api.Param{slot, slot}, Fns: []api.Fn{{Name: "f", Type: 1, Body: []api.Stmt{{Kind: api.Give, Exprs: []api.Expr{deep}}}}}}, api.ErrDeep},
		{api.Contract{Name: "c", Slots: []api.Param{slot, slot}, Fns: []api.Fn{bad}}, api.ErrDouble},
		{api.Contract{Name: "c", Fns: []api.Fn{bad}}, api.ErrEnd},
	} {
		_, says := script.Print(x.c)
		if got := kinds.Check(x.c); got != x.want || says != api.OK && says != got {
			t.Errorf("K1: case %d: %d, not %d; Print says %d", i, got, x.want, says)
		}
	}
}

// K2: what may be declared, and how long it is visible.
func TestDeclarations(t *testing.T) {
	for _, s := range strings.Fields("sn sf sw mn mf mw gn gf gw t pn pf pw") {
		for _, text := range []string{"let |: num = 1;", "if true { let |: num = 1; }", "if true { } else { let |: num = 1; }", "while true { let |: num = 1; }", "if true { while true { let |: num = 1; } }"} {
			steps(t, "K2", strings.ReplaceAll(text, "|", s), api.ErrDouble)
			steps(t, "K2", strings.ReplaceAll(text, "|", s+"x"), api.OK)
		}
		if s[0] != 'p' {
			mustBe(t, "K2: a parameter", around+"fn t("+s+": num) -> num { return 1; } }", api.ErrDouble)
			mustBe(t, "K2: a parameter", around+"fn t(x: num, y: flag, "+s+": num) -> num { return 1; } }", api.ErrDouble)
		}
	}
	mustBe(t, "K2: two parameters", around+"fn t(x: num, x: num) -> num { return 1; } }", api.ErrDouble)
	mustBe(t, "K2: two parameters", around+"fn t(x: num, y: num, x: flag) -> num { return 1; } }", api.ErrDouble)
	mustBe(t, "K2: of a function behind", "contract c { fn f(g: num) -> num { return 1; } fn g() -> num { return 1; } }", api.ErrDouble)
	mustBe(t, "K2: of a function behind", "contract c { fn f() -> num { let g: num = 1; return 1; } fn g() -> num { return 1; } }", api.ErrDouble)
	mustBe(t, "K2: another function's", "contract c { fn f(a: num) -> num { let b: num = a; return b; } fn g(a: num) -> num { let b: num = a; return b; } }", api.OK)
	mustBe(t, "K2: another function's", "contract c { fn f(a: num) -> num { let b: num = a; return b; } fn g() -> num { return a; } }", api.ErrName)
	mustBe(t, "K2: another function's", "contract c { fn f(a: num) -> num { let b: num = a; return b; } fn g() -> num { return b; } }", api.ErrName)
	mustBe(t, "K2: the contract's", around+"fn t(c: num) -> num { let any: num = c; return any; } }", api.OK)
}

func TestVisible(t *testing.T) {
	for s, want := range map[string]api.Errno{
		"let x: num = 1; note x;":                                                                    api.OK,
		"note x; let x: num = 1;":                                                                    api.ErrName,
		"let x: num = x;":                                                                            api.ErrName,
		"let x: num = 1; let x: num = 2;":                                                            api.ErrDouble,
		"let x: num = 1; let y: num = x; let z: num = x + y; note z;":                                api.OK,
		"let x: num = 1; if true { note x; x = 2; } note x;":                                         api.OK,
		"let x: num = 1; if true { let x: num = 2; }":                                                api.ErrDouble,
		"let x: num = 1; while true { if true { } else { x = x + 1; } }":                             api.OK,
		"if true { let x: num = 1; note x; } note x;":                                                api.ErrName,
		"if true { let x: num = 1; } else { note x; }":                                               api.ErrName,
		"if true { let x: num = 1; } else { let x: flag = true; need x; }":                           api.OK,
		"if true { let x: num = 1; } let x: who = self; pay x, 1;":                                   api.OK,
		"while true { let x: num = 1; note x; } note x;":                                             api.ErrName,
		"while true { let x: num = 1; } while true { let x: num = 2; }":                              api.OK,
		"while x { let x: flag = true; }":                                                            api.ErrName,
		"if true { if true { let x: num = 1; } note x; }":                                            api.ErrName,
		"if true { let x: num = 1; if true { let y: num = x; } x = 2; }":                             api.OK,
		"if true { let x: num = 1; if true { let y: num = x; } x = y; }":                             api.ErrName,
		"let x: flag = true; let y: num = 0; ask x, y = pw.any(x) value y gas y; note y; need x;":    api.OK,
		"let x: flag = true; if true { let y: num = 0; } ask x, y = pw.any() value 1 gas 1;":         api.ErrName,
		"if true { let x: flag = true; } let y: num = 0; ask x, y = pw.any() value 1 gas 1; need x;": api.ErrName,
		"x = 1;": api.ErrName, "x[1] = 1;": api.ErrName, "note x[1];": api.ErrName, "note x();": api.ErrName,
	} {
		steps(t, "K2", s, want)
	}
}

package mean_test

import (
	"fmt"
	"strings"
	"testing"

	"assize/api"
	"assize/mean"
	"assize/state"
)

const adder = "contract c { slot n: num; open fn add(a: num) -> num { need a < 10; n = n + a; return n; } }"

func TestExample(t *testing.T) {
	for _, x := range []struct {
		arg, gas int
		want     string
	}{{4, 100, "done 4 used 23"}, {4, 23, "done 4 used 23"}, {4, 22, "out used 22"}, {4, 20, "out used 20"}, {10, 100, "failed used 4"}, {10, 3, "out used 3"}} {
		o, tree := called(t, begun(adder), api.Job{From: giver, To: me, Text: "add", Args: []int{x.arg}, Gas: x.gas})
		must(t, fmt.Sprint("N3, example 4 with ", x.arg, " and ", x.gas), o, x.want)
		if got := state.New(tree).Word(me, 0, 0); got != o.Value {
			t.Errorf("N2: the slot has %d", got)
		}
	}
}

// N1, as M1: jobs that may not be have failed; those that may be are done, where there is nothing that could fail.
func TestJobs(t *testing.T) {
	for n, may := range map[int]bool{-1 << 63: false, -1: false, 0: true, api.MaxNumber: true, api.MaxNumber + 1: false, 1<<63 - 1: false} {
		for field, change := range map[string]func(*api.Job){
			"From": func(j *api.Job) { j.From = n }, "To": func(j *api.Job) { j.To = n }, "Height": func(j *api.Job) { j.Height = n },
			"the first argument": func(j *api.Job) { j.Args[0] = n }, "the last argument": func(j *api.Job) { j.Args[7] = n },
			"Gas": func(j *api.Job) { j.Gas = min(n, api.MaxGas+1-truth(may)) }, "arguments": func(j *api.Job) { j.Args = make([]int, 9-truth(may)) },
		} {
			j := job(0, 0, 0, 0, 0, 0, 0, 0)
			j.To = nobody
			change(&j)
			want := "failed used 0"
			if may {
				want = "done 0 used 0"
			}
			o, _ := called(t, begun(), j)
			must(t, fmt.Sprint("N1: ", field, " ", n), o, want)
		}
	}
}

func truth(is bool) int {
	if is {
		return 1
	}
	return 0
}

// piled: a function whose stack, without what stands around, has 64 numbers at most.
func piled(around string) string {
	inner := "0"
	for range 9 {
		inner = "h(1, 2, 3, 4, 5, 6, 7, " + inner + ")"
	}
	return "fn h(a: num, b: num, c: num, d: num, e: num, i: num, j: num, k: num) -> num { return a; } fn g() -> num { return " + strings.Replace(around, "|", inner, 1) + "; } }"
}

// N1, as M2: the value, the text, the function.
func TestWhatIsFirst(t *testing.T) {
	const text = "contract c { open fn f() -> num { return balance(self) * 1000 + balance(caller); } open fn one(a: num) -> num { return a; } fn shut() -> num { return 1; } open fn bad() -> num { need false; return 1; } open fn long() -> num { while true { } return 1; } }"
	lets := ""
	for i := range 33 {
		lets += fmt.Sprint("let v", i, ": num = 1; ")
	}
	right := "contract c { open fn f() -> num { return 1; } "
	for _, x := range []struct {
		why, text       string
		from, to, value int
		name            string
		args            []int
		want            string
	}{
		{"nobody", text, giver, nobody, 0, "f", nil, "done 0 used 0"},
		{"nobody, with a value", text, giver, nobody, 100, "what?", []int{1}, "done 0 used 0"},
		{"nobody, with too much", text, giver, nobody, 101, "f", nil, "failed used 0"},
		{"to oneself", text, giver, giver, 100, "f", nil, "done 0 used 0"},
		{"to oneself too much", text, giver, giver, 101, "f", nil, "failed used 0"},
		{"nothing", text, giver, me, 0, "f", nil, "done 50100 used 14"},
		{"a value", text, giver, me, 30, "f", nil, "done 80070 used 14"},
		{"too much", text, giver, me, 101, "f", nil, "failed used 0"},
		{"from itself", text, me, me, 50, "f", nil, "done 50050 used 14"},
		{"a value that comes back", text, giver, me, 30, "bad", nil, "failed used 2"},
		{"a value that comes back from without end", text, giver, me, 30, "long", nil, "out used 1000"},
		{"another function", text, giver, me, 30, "none", nil, "failed used 0"},
		{"one that is not open", text, giver, me, 30, "shut", nil, "failed used 0"},
		{"an argument", text, giver, me, 0, "one", []int{6}, "done 6 used 2"},
		{"no argument", text, giver, me, 0, "one", nil, "failed used 0"},
		{"two arguments", text, giver, me, 0, "one", []int{6, 7}, "failed used 0"},
		{"a text that ends too early", right, giver, me, 0, "f", nil, "failed used 0"},
		{"a right one", right + "}", giver, me, 0, "f", nil, "done 1 used 2"},
		{"something behind it", right + "} x", giver, me, 0, "f", nil, "failed used 0"},
		{"another kind", right + "fn g() -> num { return true; } }", giver, me, 0, "f", nil, "failed used 0"},
		{"no end", right + "fn g() -> num { } }", giver, me, 0, "f", nil, "failed used 0"},
		{"a name twice", right + "slot f: num; }", giver, me, 0, "f", nil, "failed used 0"},
		{"too long", right + "}" + strings.Repeat(" ", 2002), giver, me, 0, "f", nil, "failed used 0"},
		{"just not too long", right + "}" + strings.Repeat(" ", 2001), giver, me, 0, "f", nil, "done 1 used 2"},
		{"33 locals", right + "fn g() -> num { " + lets + "return 1; } }", giver, me, 0, "f", nil, "failed used 0"},
		{"32 locals", right + "fn g() -> num { " + lets[17:] + "return 1; } }", giver, me, 0, "f", nil, "done 1 used 2"},
		{"a stack of 65", right + piled("1 + (|)"), giver, me, 0, "f", nil, "failed used 0"},
		{"a stack of 64", right + piled("|"), giver, me, 0, "f", nil, "done 1 used 2"},
	} {
		o, _ := called(t, begun(x.text), api.Job{From: x.from, To: x.to, Value: x.value, Text: x.name, Args: x.args, Gas: 1000})
		must(t, "N1: "+x.why, o, x.want)
	}
}

// around: slots 0 to 2, maps 3 to 5, functions, and a function f with locals of all kinds: 20, true, the giver.
const around = `contract c { slot sn: num; slot sf: flag; slot sw: who; map mn: num -> num; map mf: who -> flag; map mw: flag -> who;
	fn gn() -> num { return 6; } fn gf(a: num, b: flag, c: who) -> flag { return not b; } fn gw(a: who) -> who { return a; } fn bad() -> num { return 1 / 0; }
	fn set(n: num) -> num { sn = n; return n; }
	open fn f(pn: num, pf: flag, pw: who) -> `

// meant: the outcome of steps, with all gas that it may have.
func meant(t *testing.T, kind, steps, want string) {
	t.Helper()
	s := state.New(begun(around + kind + " { " + steps + " } }"))
	s.SetWord(me, 0, 0, 44)
	s.SetWord(me, 3, 7, 55)
	s.SetWord(me, 4, giver, 1)
	s.SetWord(me, 5, 1, nobody)
	j := job(20, 1, giver)
	j.Value = 10
	allGas(t, "N2, N3: "+steps, s.Tree(), j, want)
}

// N2, N3: each expression, as what is returned: 1 behind it.
func TestExpressions(t *testing.T) {
	const most = api.MaxNumber
	for _, x := range []struct {
		kind, text string
		worth, gas int // below 0: it fails, with that gas
	}{
		{"num", "0", 0, 1}, {"num", "1099511627775", most, 1}, {"flag", "true", 1, 1}, {"flag", "false", 0, 1},
		{"num", "pn", 20, 1}, {"flag", "pf", 1, 1}, {"who", "pw", giver, 1},
		{"num", "sn", 44, 4}, {"flag", "sf", 0, 4}, {"who", "sw", 0, 4},
		{"num", "mn[7]", 55, 5}, {"num", "mn[8]", 0, 5}, {"num", "mn[0]", 0, 5}, {"flag", "mf[pw]", 1, 5}, {"flag", "mf[self]", 0, 5}, {"who", "mw[true]", nobody, 5}, {"num", "mn[mn[7] - 48]", 55, 11},
		{"who", "self", me, 1}, {"who", "caller", giver, 1}, {"num", "value", 10, 1}, {"num", "height", 9, 1},
		{"num", "balance(self)", 60, 5}, {"num", "balance(caller)", 90, 5}, {"num", "balance(who(77))", 0, 5}, {"num", "num(pw)", giver, 1}, {"who", "who(num(who(9)))", 9, 1},
		{"num", "gn()", 6, 4}, {"flag", "gf(1, true, self)", 0, 8}, {"flag", "gf(pn + 1, false, caller)", 1, 10}, {"who", "gw(gw(pw))", giver, 9}, {"num", "gn() + gn()", 12, 9},
		{"flag", "not true", 0, 2}, {"flag", "not false", 1, 2}, {"flag", "not not pf", 1, 3},
		{"num", "20 + 6", 26, 3}, {"num", "20 - 6", 14, 3}, {"num", "20 * 6", 120, 3}, {"num", "20 / 6", 3, 3}, {"num", "20 % 6", 2, 3}, {"num", "20 - 6 - 4", 10, 5}, {"num", "20 - (6 - 4)", 18, 5},
		{"num", "20 - 20", 0, 3}, {"num", "20 - 21", -1, 3}, {"num", "0 - 1099511627775", -1, 3}, {"num", "1099511627775 + 0", most, 3}, {"num", "1099511627775 + 1", -1, 3}, {"num", "1099511627775 + 1099511627775", -1, 3},
		{"num", "1048575 * 1048577", most, 3}, {"num", "1048576 * 1048576", -1, 3}, {"num", "4294967296 * 4294967296", -1, 3}, {"num", "0 * 1099511627775", 0, 3}, {"num", "1099511627775 * 0", 0, 3}, {"num", "1099511627775 * 1", most, 3}, {"num", "2 * 1099511627775", -1, 3},
		{"num", "5 / 0", -1, 3}, {"num", "5 % 0", -1, 3}, {"num", "0 / 5", 0, 3}, {"num", "1 + 5 / 0", -1, 4}, {"num", "5 / 0 + 1", -1, 3}, {"num", "gn() + bad()", -1, 9},
		{"flag", "5 == 5", 1, 3}, {"flag", "5 == 6", 0, 3}, {"flag", "5 != 5", 0, 4}, {"flag", "5 != 6", 1, 4}, {"flag", "self == caller", 0, 3}, {"flag", "true != false", 1, 4},
		{"flag", "5 < 6", 1, 3}, {"flag", "5 < 5", 0, 3}, {"flag", "6 < 5", 0, 3}, {"flag", "5 <= 6", 1, 4}, {"flag", "5 <= 5", 1, 4}, {"flag", "6 <= 5", 0, 4},
		{"flag", "5 > 6", 0, 3}, {"flag", "5 > 5", 0, 3}, {"flag", "6 > 5", 1, 3}, {"flag", "5 >= 6", 0, 4}, {"flag", "5 >= 5", 1, 4}, {"flag", "6 >= 5", 1, 4},
		// What is said by the first part alone leaves the second one be, even one that would fail.
		{"flag", "true or true", 1, 4}, {"flag", "true or false", 1, 4}, {"flag", "false or true", 1, 3}, {"flag", "false or false", 0, 3}, {"flag", "true or bad() == 1", 1, 4}, {"flag", "false or bad() == 1", -1, 7}, {"flag", "false or false or true", 1, 5}, {"flag", "true or false or true", 1, 7},
		{"flag", "true and true", 1, 4}, {"flag", "true and false", 0, 4}, {"flag", "false and true", 0, 3}, {"flag", "false and false", 0, 3}, {"flag", "false and bad() == 1", 0, 3}, {"flag", "true and bad() == 1", -1, 7}, {"flag", "true and true and false", 0, 7}, {"flag", "false and true and false", 0, 5},
		// From the left: what is worked out first does not see what comes behind it.
		{"num", "sn + set(5)", 49, 4 + 14 + 1}, {"num", "set(5) + sn", 10, 4 + 14 + 1}, {"num", "mn[7] + mn[set(7)]", 110, 5 + 14 + 4 + 1},
	} {
		want := fmt.Sprint("done ", x.worth, " used ", x.gas+1)
		if x.worth < 0 {
			want = fmt.Sprint("failed used ", x.gas)
		}
		meant(t, x.kind, "return "+x.text+";", want)
	}
}

// N2, N3: each step, with `return sn`, 5, behind it, or another return.
func TestSteps(t *testing.T) {
	for _, x := range []struct{ text, want string }{
		{"return sn;", "done 44 used 5"},
		{"let x: num = 7; return x;", "done 7 used 4"},
		{"let x: num = 7; let y: num = x + 1; x = y * 2; return x + y;", "done 24 used 14"},
		{"pn = 4; return pn;", "done 4 used 4"},
		{"sn = 4; return sn;", "done 4 used 14"},
		{"sn = 4; sn = sn + sn; return sn;", "done 8 used 31"},
		{"mn[7] = 4; return mn[7];", "done 4 used 16"},
		{"mn[8] = 4; return mn[7] + mn[8];", "done 59 used 22"},
		{"mn[0] = 4; return sn;", "done 44 used 15"},
		{"mw[pf] = self; return num(mw[true]);", "done 549755813889 used 16"},
		{"mn[set(8)] = sn; return mn[8];", "done 8 used 32"},
		{"need true; return sn;", "done 44 used 7"},
		{"need false; return sn;", "failed used 2"},
		{"note 3; return sn;", "done 44 used 10 note 1:3"},
		{"note 3; note pn; note 0; return sn;", "done 44 used 20 note 1:3 note 1:20 note 1:0"},
		{"note 3; need false; return sn;", "failed used 7"},
		{"pay who(77), 60; return balance(who(77)) - balance(self);", "done 60 used 30"},
		{"pay who(77), 61; return sn;", "failed used 18"},
		{"pay who(77), 0; return sn;", "done 44 used 23"},
		{"pay self, 60; return balance(self);", "done 60 used 24"},
		{"pay self, 61; return sn;", "failed used 18"},
		{"pay caller, 10; return balance(caller);", "done 100 used 24"},
		{"if pf { note 1; } return sn;", "done 44 used 12 note 1:1"},
		{"if not pf { note 1; } return sn;", "done 44 used 8"},
		{"if pf { } return sn;", "done 44 used 7"},
		{"if pf { } else { } return sn;", "done 44 used 7"},
		{"if not pf { } else { } return sn;", "done 44 used 8"},
		{"if pf { note 1; } else { } return sn;", "done 44 used 12 note 1:1"},
		{"if pf { note 1; } else { note 2; } return sn;", "done 44 used 13 note 1:1"},
		{"if not pf { note 1; } else { note 2; } return sn;", "done 44 used 13 note 1:2"},
		{"if pf { } else { note 2; } return sn;", "done 44 used 8"},
		{"if not pf { } else { note 2; } return sn;", "done 44 used 13 note 1:2"},
		{"if pf { return 8; } return sn;", "done 8 used 4"},
		{"if pf { return 8; } else { return 9; }", "done 8 used 4"},
		{"if not pf { return 8; } else { return 9; }", "done 9 used 5"},
		{"if pf { return 8; } else { note 2; } return sn;", "done 8 used 4"},
		{"if not pf { return 8; } else { note 2; } return sn;", "done 44 used 13 note 1:2"},
		{"if pf { note 1; } else { return 9; } return sn;", "done 44 used 13 note 1:1"},
		{"if pf { if pf { return 8; } } else { note 2; } return sn;", "done 8 used 6"},
		{"if pf { if not pf { return 8; } } else { note 2; } return sn;", "done 44 used 11"},
		{"if pf { if not pf { return 8; } else { note 3; } } else { note 2; } return sn;", "done 44 used 16 note 1:3"},
		{"if pf { if pf { note 4; } else { note 3; } } else { note 2; } return sn;", "done 44 used 16 note 1:4"},
		{"while false { note 1; } return sn;", "done 44 used 7"},
		{"let i: num = 0; while i < 3 { note i; i = i + 1; } return i;", "done 3 used 50 note 1:0 note 1:1 note 1:2"},
		{"while pf { pf = false; } return sn;", "done 44 used 12"},
		{"while pf { return 8; } return sn;", "done 8 used 4"},
		{"while true { if sn == 46 { return sn; } sn = sn + 1; }  return 0;", "done 46 used 62"},
		{"let i: num = 0; while i < 2 { let k: num = 0; while k < 2 { note 10 * i + k; k = k + 1; } i = i + 1; } return i;", "done 2 used 110 note 1:0 note 1:1 note 1:10 note 1:11"},
		{"while true { let x: num = pn; pn = pn - 1; if x == 18 { return pn; } } return 0;", "done 17 used 40"},
		{"if pf { let x: num = 1; note x; } else { let x: num = 2; note x; } let x: num = 3; return x;", "done 3 used 14 note 1:1"},
		{"if pf { let x: num = 1; sn = x; } if pf { let x: num = sn; x = x + 1; note x; } return sn;", "done 1 used 34 note 1:2"},
		{"while true { } return 0;", "out used 1000"},
		{"while true { note 1; } return 0;", "failed used 519"},
		{"return f(pn - 1, pf, pw);", "failed used 143"},
		{"if pn == 10 { return 0; } return f(pn - 1, pf, pw) + 1;", "done 10 used 146"},
	} {
		meant(t, "num", x.text, x.want)
	}
}

// N2: flags that came from outside as other numbers: true, unless they are 0; and what they were where they are handed on.
func TestOtherFlags(t *testing.T) {
	for text, want := range map[string]string{
		"a": "done 5 used 2", "not a": "done 0 used 3", "not not a": "done 1 used 4", "a == true": "done 0 used 4", "a == b": "done 0 used 4", "a != b": "done 1 used 5",
		"a or b": "done 1 used 5", "z or b": "done 7 used 4", "a and b": "done 7 used 5", "z and b": "done 0 used 4", "b and a": "done 5 used 5", "g(a)": "done 5 used 6",
	} {
		allGas(t, "N2: "+text, begun("contract c { fn g(a: flag) -> flag { return a; } open fn f(a: flag, b: flag, z: flag) -> flag { return "+text+"; } }"), job(5, 7, 0), want)
	}
	s := state.New(begun("contract c { slot s: flag; open fn f(a: flag) -> flag { if a { s = a; } need a; while not s { } return s; } }"))
	o, tree := called(t, s.Tree(), job(5))
	if must(t, "N2", o, "done 5 used 24"); state.New(tree).Word(me, 0, 0) != 5 {
		t.Error("N2: the slot has another number")
	}
}

// N2: MaxFrames functions of a contract may be under way, the first one too.
func TestFrames(t *testing.T) {
	const text = "contract c { fn down(n: num) -> num { if n == 0 { return 0; } return down(n - 1) + 1; } open fn f(n: num) -> num { return down(n); } open fn g(n: num) -> num { let i: num = 0; while i < 40 { i = i + 1 + down(0); } return down(n); } }"
	for n, want := range map[int]string{0: "done 0 used 10", 1: "done 1 used 22", 30: "done 30 used 370", 31: "failed used 282", 32: "failed used 282"} {
		allGas(t, fmt.Sprint("N2: frames ", n), begun(text), job(n), want)
	}
	for n, want := range map[int]string{30: "done 30", 31: "failed"} {
		j := job(n)
		j.Text, j.Gas = "g", api.MaxGas
		if o, _ := called(t, begun(text), j); !strings.HasPrefix(shown(o), want+" ") {
			t.Errorf("N2: frames behind others, %d: %s", n, shown(o))
		}
	}
}

// P2: what comes out is the caller's, and what was handed in is not kept.
func TestFresh(t *testing.T) {
	s := state.New(begun("contract c { slot n: num; open fn f(a: num, b: num) -> num { note a; note b; a = 9; n = n + 1; return n; } }"))
	j := job(4, 5)
	first := mean.Call(s, j)
	second := mean.Call(s, j)
	first.Notes[0].N = 99
	_ = append(first.Notes[:1], api.Note{N: 98})
	must(t, "P2", second, "done 2 used 31 note 1:4 note 1:5")
	if must(t, "P2", mean.Call(s, j), "done 3 used 31 note 1:4 note 1:5"); fmt.Sprint(j.Args) != "[4 5]" {
		t.Errorf("P2: the arguments are %v", j.Args)
	}
}

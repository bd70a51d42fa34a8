package script_test

import (
	"fmt"
	"math/rand"
	"strconv"
	"strings"
	"testing"

	"assize/api"
	"assize/script"
)

// told: a contract as text, an empty list being like none.
func told(c api.Contract) string { return fmt.Sprintf("%+v", c) }

func mustParse(t *testing.T, why, text string, want api.Contract) {
	t.Helper()
	c, e := script.Parse(text)
	if e != api.OK || told(c) != told(want) {
		t.Errorf("%s: Parse(%q): %d\n%s, not\n%s", why, text, e, told(c), told(want))
	}
}

// mustFail: the fault is told, and nothing else.
func mustFail(t *testing.T, why, text string, want api.Errno) {
	t.Helper()
	c, e := script.Parse(text)
	if e != want {
		t.Errorf("%s: Parse(%q): %d, not %d", why, text, e, want)
	}
	if e != api.OK && told(c) != told(api.Contract{}) {
		t.Errorf("P1: Parse(%q): %d, and %s", text, e, told(c))
	}
}

// inFn: the text of a contract with a function of such steps.
func inFn(steps string) string { return "contract c { fn f() -> num { " + steps + " } }" }

// stepsOf: the steps of that function.
func stepsOf(t *testing.T, why, steps string) []api.Stmt {
	t.Helper()
	c, e := script.Parse(inFn(steps))
	if e != api.OK || len(c.Fns) != 1 {
		t.Fatalf("%s: Parse(%q): %d", why, inFn(steps), e)
	}
	return c.Fns[0].Body
}

func exprOf(t *testing.T, why, text string) api.Expr {
	t.Helper()
	l := stepsOf(t, why, "return "+text+";")
	if len(l) != 1 || l[0].Kind != api.Give || len(l[0].Exprs) != 1 {
		t.Fatalf("%s: %q: %+v", why, text, l)
	}
	return l[0].Exprs[0]
}

func TestNames(t *testing.T) {
	for _, s := range []string{
		"a", "z", "a0", "z9_", "a_", "a__b", "abcdefghijklmnop", "a123456789012345", "a_______________",
		"contracts", "slo", "iff", "whos", "no", "n", "or_", "not1", "and0", "numb", "tru", "gase",
	} {
		mustParse(t, "E1", "contract "+s+" { }", api.Contract{Name: s})
	}
	for _, s := range []string{
		"abcdefghijklmnopq", "a1234567890123456", strings.Repeat("x", 100), strings.Repeat("not", 6),
		"A", "aB", "Ab", "_", "_a", "1", "1a", "9x", "0", "é", "aé", "a-b", "a.b", "\"a\"", "-", "{", "==", "@", "!", "&", "|", "'a'", "~", "^", "?", "$", "\\", "`", "\x00", "\x7f", "\xff",
	} {
		mustFail(t, "E1", "contract "+s+" { }", api.ErrWord)
	}
	for _, s := range strings.Fields(allWords) {
		mustFail(t, "E1: words are no names", "contract "+s+" { }", api.ErrWord)
	}
}

func TestNumbers(t *testing.T) {
	for _, n := range []int{0, 1, 7, 10, 99, 100, 1000000, 1<<31 - 1, 1 << 31, 1 << 32, api.MaxNumber - 1, api.MaxNumber} {
		x := exprOf(t, "E1", strconv.Itoa(n))
		if fmt.Sprint(x) != fmt.Sprint(api.Expr{Op: api.Number, N: n}) {
			t.Errorf("E1: %d: %+v", n, x)
		}
	}
	for _, s := range []string{
		"00", "01", "007", "0000000000000", "01099511627775", "1099511627776", "1099511627780", "9999999999999",
		"18446744073709551616", "18446744073709551617", "36893488147419103233", strings.Repeat("9", 500), "1" + strings.Repeat("0", 64),
		"-1", "+1", "0x1", "1_000", "1.5", "1e3",
	} {
		mustFail(t, "E1", inFn("return "+s+";"), api.ErrWord)
	}
}

func TestBetweenTokens(t *testing.T) {
	want := api.Contract{Name: "c", Slots: []api.Param{{Name: "a", Type: api.Num}}}
	for _, s := range []string{
		"contract c{slot a:num;}", "contract\nc\n{\nslot\na\n:\nnum\n;\n}", "  contract   c { slot a :num ; }  ", "\n\ncontract c { slot a: num; }\n\n",
		"#\ncontract c { slot a: num; }", "# contract x { }\ncontract c { slot a: num; }", "contract#c\nc { slot a: num; }",
		"contract c { slot a: num; } #", "contract c { slot a: num; }# } @ \" x", "contract c { slot a: num; # slot b: num;\n}",
		"contract c { ## # \n # }\n\n #\nslot a: num;\n#\n}\n#\xff\x00@",
	} {
		mustParse(t, "E1", s, want)
	}
	for _, s := range []string{
		"contract\tc { }", "contract c { }\t", "contract c {\r\n}", "contract c { }\x00", "contract\vc { }", "contract c {\u00a0}", "\ufeffcontract c { }",
	} {
		mustFail(t, "E1: neither blank nor newline", s, api.ErrWord)
	}
	mustFail(t, "E1: a remark goes on to the end of the line", "contract c { # }", api.ErrShort)
	mustFail(t, "E1: a remark goes on to the end of the line", "contract c # { }\n}", api.ErrWord)
	mustFail(t, "E1: words are cut where they end", "contractc { }", api.ErrWord)
	mustFail(t, "E1: words are cut where they end", "contract c { slota: num; }", api.ErrWord)
}

// Tokens need nothing between them where they end by themselves, and the longest sign is taken.
func TestSigns(t *testing.T) {
	for dense, loose := range map[string]string{
		"a<=b": "a <= b", "a>=b": "a >= b", "a==b": "a == b", "a!=b": "a != b", "a<b": "a < b", "a>b": "a > b",
		"a+b-c*d/e%g": "a + b - c * d / e % g", "1or a": "1 or a", "1and 2": "1 and 2", "m[1]==n[2]": "m [ 1 ] == n [ 2 ]",
		"g(1,2)": "g ( 1 , 2 )", "not(a)": "not ( a )", "num(self)": "num ( self )",
	} {
		if x, y := exprOf(t, "E1", dense), exprOf(t, "E1", loose); fmt.Sprint(x) != fmt.Sprint(y) {
			t.Errorf("E1: %q is %v, %q is %v", dense, x, loose, y)
		}
	}
	for _, s := range []string{"a->b", "a=<b", "a=>b", "a===b", "a<==b", "a!b", "a! =b", "a= =b", "a< =b", "a> =b", "a<>b", "a&&b", "a--b", "a=b", "1or2", "1or_", "!a", "a!"} {
		mustFail(t, "E1", inFn("return "+s+";"), api.ErrWord)
	}
	mustFail(t, "E1", "contract c { map m: num - > num; }", api.ErrWord)
	mustParse(t, "E1", "contract c{map m:num->who;}", api.Contract{Name: "c", Tables: []api.Table{{Name: "m", From: api.Num, To: api.Who}}})
	mustFail(t, "E1: the longest", inFn("m[a]==1;"), api.ErrWord)
	mustFail(t, "E1: the longest", inFn("x==1;"), api.ErrWord)
	mustParse(t, "E1", "contract c{open fn f()->num{x=m[1];}}", api.Contract{Name: "c", Fns: []api.Fn{{
		Name: "f", Open: true, Type: api.Num, Body: []api.Stmt{{Kind: api.Set, Name: "x", Exprs: []api.Expr{
			{Op: api.At, Name: "m", Args: []api.Expr{{Op: api.Number, N: 1}}}}}}}}})
}

func TestItems(t *testing.T) {
	mustParse(t, "E2", "contract all { fn f(a: num, b: flag, c: who) -> who { } map m: who -> flag; slot s: num; open fn g() -> flag { } slot t: who; map n: num -> num; slot u: flag; }",
		api.Contract{Name: "all",
			Slots:  []api.Param{{Name: "s", Type: api.Num}, {Name: "t", Type: api.Who}, {Name: "u", Type: api.Flag}},
			Tables: []api.Table{{Name: "m", From: api.Who, To: api.Flag}, {Name: "n", From: api.Num, To: api.Num}},
			Fns: []api.Fn{
				{Name: "f", Params: []api.Param{{Name: "a", Type: api.Num}, {Name: "b", Type: api.Flag}, {Name: "c", Type: api.Who}}, Type: api.Who},
				{Name: "g", Open: true, Type: api.Flag},
			}})
	// Whether names are there, or there twice, is none of the text's business.
	mustParse(t, "E2", "contract c { slot c: num; slot c: num; }", api.Contract{Name: "c", Slots: []api.Param{{Name: "c", Type: 1}, {Name: "c", Type: 1}}})
}

func TestSteps(t *testing.T) {
	one := []api.Expr{{Op: api.Number, N: 1}}
	two := []api.Expr{{Op: api.Number, N: 1}, {Op: api.Truth, N: 1}}
	note := []api.Stmt{{Kind: api.Tell, Exprs: one}}
	for text, want := range map[string]api.Stmt{
		"let a: who = 1;":                   {Kind: api.Let, Name: "a", Type: api.Who, Exprs: one},
		"a = 1;":                            {Kind: api.Set, Name: "a", Exprs: one},
		"a[1] = true;":                      {Kind: api.Put, Name: "a", Exprs: two},
		"if 1 { }":                          {Kind: api.If, Exprs: one},
		"if 1 { note 1; }":                  {Kind: api.If, Exprs: one, Body: note},
		"if 1 { note 1; } else { }":         {Kind: api.If, Exprs: one, Body: note},
		"if 1 { } else { note 1; note 1; }": {Kind: api.If, Exprs: one, Else: append(note[:1:1], note...)},
		"while 1 { }":                       {Kind: api.While, Exprs: one},
		"while 1 { note 1; }":               {Kind: api.While, Exprs: one, Body: note},
		"return 1;":                         {Kind: api.Give, Exprs: one},
		"need 1;":                           {Kind: api.Need, Exprs: one},
		"note 1;":                           {Kind: api.Tell, Exprs: one},
		"pay 1, true;":                      {Kind: api.PayOut, Exprs: two},
		"ask a, b = 1.g() value true gas 3;": {Kind: api.Ask, Name: "a", Also: "b", Call: "g",
			Exprs: append(two[:2:2], api.Expr{Op: api.Number, N: 3})},
		"ask a, b = 1.g(4, 5) value true gas 3;": {Kind: api.Ask, Name: "a", Also: "b", Call: "g",
			Exprs: append(two[:2:2], api.Expr{Op: 1, N: 3}, api.Expr{Op: 1, N: 4}, api.Expr{Op: 1, N: 5})},
		"ask a, a = value.g() value value gas height;": {Kind: api.Ask, Name: "a", Also: "a", Call: "g",
			Exprs: []api.Expr{{Op: api.Value}, {Op: api.Value}, {Op: api.Height}}},
	} {
		if got := stepsOf(t, "E2", text); fmt.Sprintf("%+v", got) != fmt.Sprintf("%+v", []api.Stmt{want}) {
			t.Errorf("E2: %q: %+v, not %+v", text, got, want)
		}
	}
	if l := stepsOf(t, "E2", "if 1 { } if 1 { } else { } note 2;"); len(l) != 3 {
		t.Errorf("E2: three steps: %+v", l)
	}
	for _, s := range []string{
		"let a = 1;", "let a: num;", "let a: num = ;", "let a[1]: num = 1;", "let a: gas = 1;", "a + 1;", "f(1);", "1;", "1 = a;", "a[] = 1;", "a[1][2] = 3;", "a[1, 2] = 3;",
		"if { }", "if 1 note 1;", "if 1 { } else note 1;", "if 1 { } else if 1 { }", "else { }", "while { }", "while 1 { } else { }", "{ }", ";", "return;", "return 1, 2;",
		"need;", "note;", "pay 1;", "pay 1, 2, 3;", "pay (1, 2);", "self = 1;", "value = 1;", "open f;", "fn g() -> num { }", "slot a: num;", "contract a { }", "let if: num = 1;",
		"ask a = 1.g() value 1 gas 1;", "ask a, b, c = 1.g() value 1 gas 1;", "ask a, b = 1 g() value 1 gas 1;", "ask a, b = 1.g value 1 gas 1;", "ask a, b = 1.g() gas 1;",
		"ask a, b = 1.g() value 1;", "ask a, b = 1.g() gas 1 value 1;", "ask a, b = 1.g(,) value 1 gas 1;", "ask a, b = 1.g()() value 1 gas 1;", "ask a, b = 1.2() value 1 gas 1;", "ask 1, b = 1.g() value 1 gas 1;",
		"ask a[1], b = 1.g() value 1 gas 1;", "ask a, b == 1.g() value 1 gas 1;", "ask a, b = 1.pay() value 1 gas 1;",
	} {
		mustFail(t, "E2", inFn(s), api.ErrWord)
	}
}

// What a text means is what it means with all its brackets.
func TestHowTightly(t *testing.T) {
	for loose, full := range map[string]string{
		"x - y":                           "(x - y)",
		"x - y - z":                       "(x - y) - z",
		"x / y / z * w % v":               "(((x / y) / z) * w) % v",
		"x + y * z":                       "x + (y * z)",
		"x * y + z":                       "(x * y) + z",
		"x + y * z - w % v":               "(x + (y * z)) - (w % v)",
		"x < y + z":                       "x < (y + z)",
		"x + y == z * w":                  "(x + y) == (z * w)",
		"not a == b":                      "not (a == b)",
		"not a and b":                     "(not a) and b",
		"not a or b":                      "(not a) or b",
		"a and not b":                     "a and (not b)",
		"a or not b and c":                "a or ((not b) and c)",
		"not not a":                       "not (not a)",
		"not not a < b and not c":         "(not (not (a < b))) and (not c)",
		"a or b or c":                     "(a or b) or c",
		"a and b and c":                   "(a and b) and c",
		"a or b and c or d":               "(a or (b and c)) or d",
		"a and b or c and d":              "(a and b) or (c and d)",
		"a == b and c != d or e":          "((a == b) and (c != d)) or e",
		"not x + y":                       "not (x + y)",
		"a <= b and c >= d":               "(a <= b) and (c >= d)",
		"m[x - y - z]":                    "m[(x - y) - z]",
		"g(x or y, not z)":                "g((x or y), (not z))",
		"who(x + y * z)":                  "who((x + (y * z)))",
		"balance(self) - 1 < num(caller)": "((balance(self)) - 1) < (num(caller))",
		"(((x)))":                         "x",
		"m[g(m[(1)])]":                    "m[g(m[1])]",
		"(x - (y - z))":                   "x - (y - z)",
	} {
		x, y := exprOf(t, "E2", loose), exprOf(t, "E2", full)
		if fmt.Sprintf("%+v", x) != fmt.Sprintf("%+v", y) {
			t.Errorf("E2: %q is %+v, %q is %+v", loose, x, full, y)
		}
	}
	if x := exprOf(t, "E2", "x - y * z"); x.Op != api.Sub || x.Args[0].Name != "x" || x.Args[1].Op != api.Mul {
		t.Errorf("E2: x - y * z: %+v", x)
	}
	compares := []string{"==", "!=", "<", "<=", ">", ">="}
	for _, a := range compares {
		for _, b := range compares {
			mustFail(t, "E2: two comparisons", inFn("return 1 "+a+" 2 "+b+" 3;"), api.ErrWord)
			exprOf(t, "E2", "(1 "+a+" 2) "+b+" 3")
			exprOf(t, "E2", "1 "+a+" (2 "+b+" 3)")
		}
		for _, b := range []string{"+", "-", "*", "/", "%", a} {
			mustFail(t, "E2: not is looser", inFn("return a "+b+" not c;"), api.ErrWord)
		}
	}
	for _, s := range []string{"", "+ 1", "- 1", "1 +", "1 2", "a b", "a not b", "()", "(1, 2)", "(1", "1)", "m[]", "m[1, 2]", "m[1", "g(1,)", "g(,1)", "g(1 2)", "m[1](2)", "g(1)[2]", "m[1][2]", "1(2)", "1[2]",
		"self()", "value(1)", "balance", "balance self", "balance()", "balance(1, 2)", "who", "num", "num()", "flag(1)", "not", "a and", "or a", "a or or b", "true(1)", "gas", "if", "a.b", "a = b"} {
		mustFail(t, "E2", inFn("return "+s+";"), api.ErrWord)
	}
}

func TestEachExpression(t *testing.T) {
	a, b := api.Expr{Op: api.Name, Name: "a"}, api.Expr{Op: api.Name, Name: "b"}
	for text, want := range map[string]api.Expr{
		"a": a, "true": {Op: api.Truth, N: 1}, "false": {Op: api.Truth}, "12": {Op: api.Number, N: 12},
		"self": {Op: api.Self}, "caller": {Op: api.Caller}, "value": {Op: api.Value}, "height": {Op: api.Height},
		"b[a]": {Op: api.At, Name: "b", Args: []api.Expr{a}}, "a()": {Op: api.Use, Name: "a"},
		"a(b)":       {Op: api.Use, Name: "a", Args: []api.Expr{b}},
		"a(b, a, b)": {Op: api.Use, Name: "a", Args: []api.Expr{b, a, b}},
		"balance(a)": {Op: api.Balance, Args: []api.Expr{a}}, "who(a)": {Op: api.AsWho, Args: []api.Expr{a}},
		"num(a)": {Op: api.AsNum, Args: []api.Expr{a}}, "not a": {Op: api.Not, Args: []api.Expr{a}},
	} {
		if x := exprOf(t, "E2", text); fmt.Sprintf("%+v", x) != fmt.Sprintf("%+v", want) {
			t.Errorf("E2: %q: %+v, not %+v", text, x, want)
		}
	}
	for op, sign := range map[int]string{
		api.Or: "or", api.And: "and", api.Eq: "==", api.Ne: "!=", api.Lt: "<", api.Le: "<=", api.Gt: ">", api.Ge: ">=",
		api.Add: "+", api.Sub: "-", api.Mul: "*", api.Div: "/", api.Mod: "%",
	} {
		want := api.Expr{Op: op, Args: []api.Expr{a, b}}
		if x := exprOf(t, "E2", "a "+sign+" b"); fmt.Sprintf("%+v", x) != fmt.Sprintf("%+v", want) {
			t.Errorf("E2: a %s b: %+v", sign, x)
		}
	}
}

// Contracts that were drawn are found in their texts again, however these are laid out.
func TestDrawnTexts(t *testing.T) {
	r := drawer(1)
	for range 3000 {
		c := r.contract()
		text := spellContract(c, r.one("", " else { }"))
		if len(text) > api.MaxText {
			continue
		}
		mustParse(t, "E2", text, c)
		if loose := strings.ReplaceAll(text, " ", r.one("  ", "\n", " \n ", "#\n", "#;}\n#\n")); len(loose) <= api.MaxText {
			mustParse(t, "E1", loose, c)
		}
	}
}

func TestTooLong(t *testing.T) {
	text := "contract c { }"
	pad := func(n int) string { return strings.Repeat(" ", n-len(text)) }
	mustParse(t, "E3", text+pad(api.MaxText), api.Contract{Name: "c"})
	mustParse(t, "E3", pad(api.MaxText)+text, api.Contract{Name: "c"})
	for _, s := range []string{text + pad(api.MaxText+1), text + "#" + pad(api.MaxText), strings.Repeat("@", api.MaxText+1), strings.Repeat(" ", api.MaxText+1), strings.Repeat("(", 1<<20)} {
		mustFail(t, "E3", s, api.ErrLimit)
	}
	mustFail(t, "E3", strings.Repeat("@", api.MaxText), api.ErrWord)
	mustFail(t, "E3", strings.Repeat(" ", api.MaxText), api.ErrShort)
}

const whole = "contract c { slot a : num ; map m : who -> flag ; open fn f ( a : num , b : who ) -> num { let x : num = 1 + 2 * ( 3 - a ) ; m [ b ] = not true or x == 4 and false ; " +
	"if m [ b ] { return f ( 1 , self ) ; } else { pay caller , value ; } while x < height { x = x % 2 ; note balance ( who ( num ( b ) ) ) ; } ask x , y = b . g ( 1 , 2 ) value 3 gas 4 ; need true ; } fn g ( ) -> who { } }"

// A text that ends too early, and a token that can't be, wherever they are.
func TestFirstFault(t *testing.T) {
	mustFail(t, "E3", whole, api.OK)
	l := strings.Fields(whole)
	for k := range l {
		ahead := strings.Join(l[:k], " ") + " "
		mustFail(t, "E3: it ends too early", ahead, api.ErrShort)
		mustFail(t, "E3: it ends too early", ahead+"# "+l[k], api.ErrShort)
		for _, s := range []string{"@", "!", "_", "X", "01", "1099511627776", "a2345678901234567", "\t", "\x80", "else else", "-> ->", ": :"} {
			mustFail(t, "E3: what can't stand there", ahead+s, api.ErrWord)
			mustFail(t, "E3: what can't stand there", ahead+s+" "+strings.Join(l[k:], " "), api.ErrWord)
		}
	}
	for _, s := range []string{"", " ", "\n", "# contract c { }"} {
		mustFail(t, "E3", s, api.ErrShort)
	}
}

func TestBehindTheEnd(t *testing.T) {
	for _, s := range []string{"x", "}", "{", "contract", "contract d { }", "1", "0", ";", "if", "-", ")", "x @", "; 01", "abcdefghijklmnop", "1099511627775"} {
		mustFail(t, "E3", "contract c { } "+s, api.ErrLong)
		mustFail(t, "E3", "contract c { }\n# x\n"+s, api.ErrLong)
	}
	for _, s := range []string{"@", "01", "!", "! =", "_", "abcdefghijklmnopq", "1099511627776", "X", "\t"} {
		mustFail(t, "E3: the first token behind is looked at", "contract c { } "+s, api.ErrWord)
	}
}

// deepTexts: an expression so many levels deep, in each way in which levels are made.
func deepTexts(n int) map[string]string {
	m := map[string]string{}
	for _, w := range []string{"(|)", "m[|]", "g(|)", "g(1, |)", "balance(|)", "who(|)", "num(|)", "not |", "1 + (|)"} {
		l := strings.Split(w, "|")
		m[w] = strings.Repeat(l[0], n) + "1" + strings.Repeat(l[1], n)
	}
	return m
}

func TestDeepTexts(t *testing.T) {
	for levels, want := range map[int]api.Errno{31: api.OK, 32: api.ErrDeep, 33: api.ErrDeep, 60: api.ErrDeep} {
		for how, x := range deepTexts(levels) {
			mustFail(t, "E3: "+how, inFn("return "+x+";"), want)
			mustFail(t, "E3: side by side: "+how, inFn("return "+x+" and "+x+";"), want)
		}
		blocks := strings.Repeat("while true { ", levels) + strings.Repeat("} ", levels)
		mustFail(t, "E3: blocks", inFn(blocks), want)
		mustFail(t, "E3: blocks of else", inFn(strings.Repeat("if 1 { } else { ", levels)+strings.Repeat("} ", levels)), want)
	}
	for levels, want := range map[int]api.Errno{30: api.OK, 31: api.ErrDeep} {
		in := func(s string) string {
			return inFn(strings.Repeat("if 1 { ", levels) + s + strings.Repeat(" }", levels))
		}
		for _, s := range []string{"m[1] = 1;", "a = m[1];", "a = (1);", "a = g();", "ask a, b = w.g() value 1 gas 1;", "ask a, b = w.g(1) value 1 gas 1;", "if a { }", "if a { } else { }", "while a { }", "a = not 1;", "a = who(1);", "pay (1), 2;", "pay 1, (2);"} {
			mustFail(t, "E3: the last level but one, or the last", in(s), want)
		}
		for _, s := range []string{"let a: num = 1 + 2 * 3 - 4;", "a = true and false or 1 < 2;", ""} {
			mustFail(t, "E3: no level", in(s), api.OK)
		}
	}
	// A level is over where it ends; parameters and the contract itself are none.
	nots := strings.TrimSuffix(strings.Repeat("not a and ", 150), " and ")
	mustFail(t, "E3: one behind the other", inFn("return "+nots+";"), api.OK)
	mustFail(t, "E3: one behind the other", inFn(strings.Repeat("if (a) { } else { } m[1] = g(2); ", 50)), api.OK)
	mustFail(t, "E3: sums", inFn("return 1"+strings.Repeat(" + 1", 400)+";"), api.OK)
	mustFail(t, "E3: parameters", "contract c { fn f(a: num) -> num { return "+strings.Repeat("(", 31)+"1"+strings.Repeat(")", 31)+"; } }", api.OK)
}

// What stands behind the token that is too deep is not looked at; what stands ahead of it is.
func TestDeepAndOther(t *testing.T) {
	for _, x := range []string{"( @", "(", "( )", "(01", "m[", "m[]", "g(", "g(,", "balance(", "not @", "not", "not;"} {
		mustFail(t, "E3", inFn("return "+strings.Repeat("(", 31)+x), api.ErrDeep)
		mustFail(t, "E3", inFn("return "+strings.Repeat("not ", 31)+x), api.ErrDeep)
	}
	for x, want := range map[string]api.Errno{"@ (": api.ErrWord, "1 (": api.ErrWord, "+ (": api.ErrWord, "m": api.ErrShort, "balance (": api.ErrDeep, "balance @": api.ErrWord, "balance not": api.ErrWord, "1 not": api.ErrWord, "": api.ErrShort} {
		mustFail(t, "E3", "contract c { fn f() -> num { return "+strings.Repeat("(", 31)+x, want)
	}
}

// many: so many of something, with something between.
func many(n int, one, between string) string {
	return strings.TrimSuffix(strings.Repeat(one+between, n), between)
}

func TestTooMany(t *testing.T) {
	in := func(items string) string { return "contract c { " + items + " }" }
	slots, maps, fns := "slot a: num; ", "map m: num -> num; ", "fn f() -> num { } "
	for k := range 33 {
		vars := many(k, slots, "") + many(32-k, maps, "")
		mustFail(t, "E3", in(vars+many(32, fns, "")), api.OK)
		mustFail(t, "E3", in(vars+slots), api.ErrLimit)
		mustFail(t, "E3", in(vars+maps), api.ErrLimit)
		mustFail(t, "E3", in(fns+vars+fns), api.OK)
	}
	vars := many(32, slots, "")
	for _, s := range []string{"slot", "map", "slot @", "map 1", "slot slot", "map a: num -> num"} {
		mustFail(t, "E3: at its first word", in(vars+s), api.ErrLimit)
	}
	for _, s := range []string{"fn", "open", "open @", "fn @", "open open", "open fn f() -> num { }", "fn f() -> num { }"} {
		mustFail(t, "E3: at its first word", in(many(32, fns, "")+s), api.ErrLimit)
		mustFail(t, "E3: at its first word", in(many(31, fns, "")+"open "+fns+s), api.ErrLimit)
	}
	for _, s := range []string{"@", "x", "slots", "1", "let"} {
		mustFail(t, "E3: no item", in(vars+many(32, fns, "")+s), api.ErrWord)
	}
}

func TestTooManyArguments(t *testing.T) {
	for where, l := range map[string][2]string{
		"a function's":   {"contract c { fn f(", ") -> num { } }"},
		"a use's":        {"contract c { fn f() -> num { return g(", "); } }"},
		"an ask's":       {"contract c { fn f() -> num { ask a, b = w.g(", ") value 1 gas 1; } }"},
		"those within":   {"contract c { fn f() -> num { return g(1, 2, 3, 4, 5, 6, 7, g(", ")); } }"},
		"those behind":   {"contract c { fn f() -> num { return g(1, 2, 3, 4, 5, 6, 7, 8) + g(", "); } }"},
		"an open one's":  {"contract c { open fn f(", ") -> num { } }"},
		"a first use's":  {"contract c { fn f() -> num { g[g(", ")] = 1; } }"},
		"of whom it has": {"contract c { fn f() -> num { ask a, b = g(", ").g() value 1 gas 1; } }"},
	} {
		one := "1"
		if strings.HasSuffix(l[0], "fn f(") {
			one = "a: num"
		}
		for n := range 9 {
			mustFail(t, "E3: "+where, l[0]+many(n, one, ", ")+l[1], api.OK)
		}
		for _, s := range []string{", " + one, ",", ", @", ",)", ",,", ", (((", ", 01"} {
			mustFail(t, "E3: at the comma: "+where, l[0]+many(8, one, ", ")+s+l[1], api.ErrLimit)
		}
		mustFail(t, "E3: "+where, l[0]+many(20, one, ", ")+l[1], api.ErrLimit)
		mustFail(t, "E3: "+where, l[0]+many(7, one, ", ")+", ,"+l[1], api.ErrWord)
		mustFail(t, "E3: "+where, l[0]+many(8, one, ", ")+" @,"+l[1], api.ErrWord)
	}
}

// Texts of all kinds, most of them wrong, against the rules told anew.
func TestFaultsOfDrawnTexts(t *testing.T) {
	r := drawer(2)
	seen := map[api.Errno]int{}
	for i := range 12000 {
		text := spellContract(r.contract(), r.one("", " else { }"))
		switch i % 4 {
		case 0:
			text = inFn("return " + r.deep() + " ;")
		case 1:
			text = r.wide()
		}
		if i%5 != 0 {
			text = r.unlike(text)
		}
		c, e := script.Parse(text)
		want := faultOf(text)
		seen[want]++
		if e != want {
			t.Fatalf("E3: Parse(%q): %d, not %d", text, e, want)
		}
		if e != api.OK && told(c) != told(api.Contract{}) {
			t.Fatalf("P1: Parse(%q): %d, and %s", text, e, told(c))
		}
	}
	for _, e := range []api.Errno{api.OK, api.ErrWord, api.ErrShort, api.ErrDeep, api.ErrLimit, api.ErrLong} {
		if seen[e] < 5 {
			t.Errorf("the texts that were drawn have the fault %d but %d times", e, seen[e])
		}
	}
}

// Bytes of all kinds.
func TestAnyBytes(t *testing.T) {
	r := rand.New(rand.NewSource(3))
	for range 6000 {
		b := []byte(whole)
		b = b[:r.Intn(len(b)+1)]
		for range r.Intn(4) {
			if len(b) > 0 {
				b[r.Intn(len(b))] = byte(r.Intn(256))
			}
		}
		mustFail(t, "E3", string(b), faultOf(string(b)))
	}
}

// spoil writes behind the end of each list of steps and expressions, as far as its memory goes, and into it.
func spoil(l []api.Stmt) {
	for i := range l {
		spoilExprs(l[i].Exprs)
		spoil(l[i].Body)
		spoil(l[i].Else)
	}
	for i := range l[len(l):cap(l)] {
		l[len(l):cap(l)][i] = api.Stmt{Kind: 99}
	}
}

func spoilExprs(l []api.Expr) {
	for i := range l {
		spoilExprs(l[i].Args)
	}
	for i := range l[len(l):cap(l)] {
		l[len(l):cap(l)][i] = api.Expr{Op: 99}
	}
}

func TestFreshMemory(t *testing.T) {
	r := drawer(4)
	for range 200 {
		text := spellContract(r.contract(), "")
		c, e := script.Parse(text)
		if e != api.OK {
			continue
		}
		before := told(c)
		for _, f := range c.Fns {
			spoil(f.Body)
		}
		if told(c) != before {
			t.Fatalf("P2: two lists share memory: %q", text)
		}
		for i := range c.Fns {
			c.Fns[i] = api.Fn{}
		}
		d, _ := script.Parse(text)
		if told(d) != before {
			t.Fatalf("P2: what was answered is kept: %q", text)
		}
	}
}

package script_test

import (
	"fmt"
	"math"
	"strings"
	"testing"

	"assize/api"
	"assize/script"
)

func mustPrint(t *testing.T, why string, c api.Contract, want string) {
	t.Helper()
	s, e := script.Print(c)
	if e != api.OK || s != want {
		t.Errorf("%s: Print(%s): %d %q, not %q", why, told(c), e, s, want)
	}
}

// mustRefuse: the fault is told, and nothing else; of OK there is a text, and Parse gives the contract back.
func mustRefuse(t *testing.T, why string, c api.Contract, want api.Errno) {
	t.Helper()
	s, e := script.Print(c)
	if e != want || (s == "") != (e != api.OK) {
		t.Errorf("%s: Print: %d %q, not %d", why, e, s, want)
		return
	}
	if e != api.OK {
		return
	}
	if d, f := script.Parse(s); f != api.OK || told(c) != told(d) {
		t.Errorf("E4: %s: Parse(%q): %d %s, not %s", why, s, f, told(d), told(c))
	}
}

func withSteps(l ...api.Stmt) api.Contract {
	return api.Contract{Name: "c", Fns: []api.Fn{{Name: "f", Type: api.Num, Body: l}}}
}

func withExpr(x api.Expr) api.Contract {
	return withSteps(api.Stmt{Kind: api.Give, Exprs: []api.Expr{x}})
}

func num(n int) api.Expr { return api.Expr{Op: api.Number, N: n} }

func of(op int, args ...api.Expr) api.Expr { return api.Expr{Op: op, Args: args} }

func TestPrintExamples(t *testing.T) {
	for text, want := range map[string]string{
		"contract c{}": "contract c { }",
		"contract c { open fn f(a:num,b:who)->flag{} slot s:who; map m:num->flag; slot t:flag; fn g()->num{} map n:who->who; }": "contract c { slot s : who ; slot t : flag ; map m : num -> flag ; map n : who -> who ; open fn f ( a : num , b : who ) -> flag { } fn g ( ) -> num { } }",
		"contract c { slot n: num; open fn add(a: num) -> num { need a < 10; n = n + a; return n; } }":                          "contract c { slot n : num ; open fn add ( a : num ) -> num { need a < 10 ; n = n + a ; return n ; } }",
		inFn("if a { } else { } if b { note 1; } else { note 2; } while c { }"):                                                 "contract c { fn f ( ) -> num { if a { } if b { note 1 ; } else { note 2 ; } while c { } } }",
		inFn("ask a, b = (w).g(((1)), 2) value (3) gas 4+5;"):                                                                   "contract c { fn f ( ) -> num { ask a , b = w . g ( 1 , 2 ) value 3 gas 4 + 5 ; } }",
		inFn("ask a, b = w.g() value 3 gas 4;"):                                                                                 "contract c { fn f ( ) -> num { ask a , b = w . g ( ) value 3 gas 4 ; } }",
		inFn("let x: flag = true; m[(x)] = (false); pay self, (1099511627775); x = g();"):                                       "contract c { fn f ( ) -> num { let x : flag = true ; m [ x ] = false ; pay self , 1099511627775 ; x = g ( ) ; } }",
		inFn("return who((1)) == caller and num(self) < balance(caller) or m[1] != value * height;"):                            "contract c { fn f ( ) -> num { return who ( 1 ) == caller and num ( self ) < balance ( caller ) or m [ 1 ] != value * height ; } }",
	} {
		c, e := script.Parse(text)
		if e != api.OK {
			t.Fatalf("E2: Parse(%q): %d", text, e)
		}
		mustPrint(t, "E4", c, want)
	}
}

func TestBracketsWhereTheyAreNeeded(t *testing.T) {
	for text, want := range map[string]string{
		"(a - b) - c": "a - b - c", "a - (b - c)": "a - ( b - c )", "a + (b + c)": "a + ( b + c )", "(a + b) * c": "( a + b ) * c", "a + (b * c)": "a + b * c",
		"(a * b) / c": "a * b / c", "a * (b / c)": "a * ( b / c )", "a % (b + c)": "a % ( b + c )", "(a < b) == c": "( a < b ) == c", "a == (b < c)": "a == ( b < c )",
		"(a + b) < (c * d)": "a + b < c * d", "not (a == b)": "not a == b", "(not a) == b": "( not a ) == b", "a == (not b)": "a == ( not b )", "not (not a)": "not not a",
		"not (a and b)": "not ( a and b )", "not (a or b)": "not ( a or b )", "(not a) and (not b)": "not a and not b", "(not a) or b": "not a or b", "not (a + b)": "not a + b",
		"(a and b) or c": "a and b or c", "a and (b or c)": "a and ( b or c )", "(a or b) and c": "( a or b ) and c", "a or (b or c)": "a or ( b or c )", "(a or b) or c": "a or b or c",
		"a and (b and c)": "a and ( b and c )", "(a == b) and (c == d)": "a == b and c == d", "(a and b) == c": "( a and b ) == c", "1 + (not a)": "1 + ( not a )", "(not a) * 2": "( not a ) * 2",
		"m[(a or b)]": "m [ a or b ]", "g((a or b), (c))": "g ( a or b , c )", "balance((a or b))": "balance ( a or b )", "(m[1]) + (g(2))": "m [ 1 ] + g ( 2 )", "((a))": "a",
		"(a - b) + c": "a - b + c", "a - (b + c)": "a - ( b + c )", "a / (b * c)": "a / ( b * c )", "(a / b) % c": "a / b % c", "a < (b)": "a < b",
	} {
		mustPrint(t, "E4: "+text, withExpr(exprOf(t, "E2", text)), "contract c { fn f ( ) -> num { return "+want+" ; } }")
	}
}

// pairsOf: the places of brackets that stand around an expression alone.
func pairsOf(l []string) (pairs [][2]int) {
	var open []int
	for i, s := range l {
		switch s {
		case "(":
			open = append(open, i)
		case ")":
			at := open[len(open)-1]
			open = open[:len(open)-1]
			ahead, _ := firstToken(l[at-1])
			if ahead != aName && ahead != "balance" && ahead != "who" && ahead != "num" {
				pairs = append(pairs, [2]int{at, i})
			}
		}
	}
	return pairs
}

// Contracts that were drawn come back from their texts; no bracket can be left out; blanks are single.
func TestDrawnContracts(t *testing.T) {
	r := drawer(5)
	brackets := 0
	for range 4000 {
		c := r.contract()
		s, e := script.Print(c)
		if e == api.ErrLimit {
			continue
		}
		d, f := script.Parse(s)
		if e != api.OK || f != api.OK || told(c) != told(d) {
			t.Fatalf("E4: %s: %d %q: %d %s", told(c), e, s, f, told(d))
		}
		l := strings.Fields(s)
		if strings.Join(l, " ") != s || strings.Contains(s, "else { }") {
			t.Fatalf("E4: %q", s)
		}
		if without := strings.NewReplacer("( ", "", ") ", ""); without.Replace(s) != without.Replace(spellContract(c, "")) {
			t.Fatalf("E4: other tokens: %q", s)
		}
		for _, p := range pairsOf(l) {
			brackets++
			fewer := strings.Join(append(append(append([]string{}, l[:p[0]]...), l[p[0]+1:p[1]]...), l[p[1]+1:]...), " ")
			if d, f := script.Parse(fewer); f == api.OK && told(c) == told(d) {
				t.Fatalf("E4: brackets that are not needed: %q", s)
			}
		}
	}
	if brackets < 500 {
		t.Errorf("but %d brackets were drawn", brackets)
	}
}

// What Parse gives is printed as another text of the same, if it is not too long.
func TestPrintOfParse(t *testing.T) {
	r := drawer(6)
	for range 3000 {
		c, e := script.Parse(strings.ReplaceAll(spellContract(r.contract(), " else { }"), " ;", ";"))
		if e != api.OK {
			continue
		}
		s, e := script.Print(c)
		if d, f := script.Parse(s); e != api.ErrLimit && (e != api.OK || f != api.OK || told(c) != told(d)) {
			t.Fatalf("E4: %s: %d %q %d", told(c), e, s, f)
		}
	}
}

var noNames = []string{"", " ", "A", "aB", "_", "_a", "1", "1a", "a-b", "a b", " a", "a ", "a\n", "é", "aé", "a.b", "a#", "abcdefghijklmnopq", strings.Repeat("x", 300), "\xff", "a\x00"}

func TestNamesOfContracts(t *testing.T) {
	bad := append(strings.Fields(allWords), noNames...)
	for s, want := range map[string]api.Errno{"a": api.OK, "abcdefghijklmnop": api.OK, "ors": api.OK, "z_9": api.OK} {
		for _, c := range namedWith(s) {
			mustRefuse(t, "E4: "+s, c, want)
		}
	}
	for _, s := range bad {
		for i, c := range namedWith(s) {
			mustRefuse(t, fmt.Sprintf("E4: the name %q, place %d", s, i), c, api.ErrForm)
		}
	}
}

// namedWith: contracts that have a name in each of the places where names stand.
func namedWith(s string) []api.Contract {
	one, three := []api.Expr{num(1)}, []api.Expr{num(1), num(2), num(3)}
	l := []api.Contract{
		{Name: s},
		{Name: "c", Slots: []api.Param{{Name: "a", Type: 1}, {Name: s, Type: 1}}},
		{Name: "c", Tables: []api.Table{{Name: "a", From: 1, To: 1}, {Name: s, From: 1, To: 1}}},
		{Name: "c", Fns: []api.Fn{{Name: "a", Type: 1}, {Name: s, Type: 1}}},
		{Name: "c", Fns: []api.Fn{{Name: "a", Type: 1, Params: []api.Param{{Name: "b", Type: 1}, {Name: s, Type: 1}}}}},
	}
	for _, st := range []api.Stmt{
		{Kind: api.Let, Name: s, Type: 1, Exprs: one}, {Kind: api.Set, Name: s, Exprs: one}, {Kind: api.Put, Name: s, Exprs: three[:2]},
		{Kind: api.Ask, Name: s, Also: "a", Call: "b", Exprs: three}, {Kind: api.Ask, Name: "a", Also: s, Call: "b", Exprs: three}, {Kind: api.Ask, Name: "a", Also: "b", Call: s, Exprs: three},
	} {
		l = append(l, withSteps(st), withSteps(api.Stmt{Kind: api.While, Exprs: one, Body: []api.Stmt{st}}), withSteps(api.Stmt{Kind: api.If, Exprs: one, Else: []api.Stmt{st}}))
	}
	for _, x := range []api.Expr{{Op: api.Name, Name: s}, {Op: api.At, Name: s, Args: one}, {Op: api.Use, Name: s}} {
		l = append(l, withExpr(x), withExpr(of(api.Add, num(1), x)), withExpr(api.Expr{Op: api.Use, Name: "g", Args: []api.Expr{num(1), x}}))
	}
	return l
}

func TestKindsOfContracts(t *testing.T) {
	for _, k := range []int{math.MinInt, -1, 0, 1, 2, 3, 4, 100, math.MaxInt} {
		want := api.ErrForm
		if k >= api.Num && k <= api.Who {
			want = api.OK
		}
		for i, c := range []api.Contract{
			{Name: "c", Slots: []api.Param{{Name: "a", Type: k}}},
			{Name: "c", Tables: []api.Table{{Name: "a", From: k, To: 1}}},
			{Name: "c", Tables: []api.Table{{Name: "a", From: 1, To: k}}},
			{Name: "c", Fns: []api.Fn{{Name: "a", Type: k}}},
			{Name: "c", Fns: []api.Fn{{Name: "a", Type: 1, Params: []api.Param{{Name: "b", Type: k}}}}},
			withSteps(api.Stmt{Kind: api.Let, Name: "a", Type: k, Exprs: []api.Expr{num(1)}}),
		} {
			mustRefuse(t, fmt.Sprintf("E4: the kind %d, place %d", k, i), c, want)
		}
	}
}

// stepForms: of each step how many expressions it has, and which other fields.
var stepForms = map[int]struct {
	exprs  int
	fields string
}{
	api.Let: {1, "Name Type"}, api.Set: {1, "Name"}, api.Put: {2, "Name"}, api.If: {1, "Body? Else?"}, api.While: {1, "Body?"},
	api.Give: {1, ""}, api.Need: {1, ""}, api.PayOut: {2, ""}, api.Tell: {1, ""}, api.Ask: {3, "Name Also Call"},
}

// stepWith: a step with just these fields.
func stepWith(kind, exprs, fields int) (s api.Stmt, has []string) {
	s.Kind = kind
	for i := range exprs {
		s.Exprs = append(s.Exprs, num(i))
	}
	note := []api.Stmt{{Kind: api.Tell, Exprs: []api.Expr{num(1)}}}
	for i, f := range []struct {
		name string
		set  func()
	}{
		{"Name", func() { s.Name = "a" }}, {"Also", func() { s.Also = "b" }}, {"Call", func() { s.Call = "d" }}, {"Type", func() { s.Type = api.Who }},
		{"Body?", func() { s.Body = note }}, {"Else?", func() { s.Else = note }},
	} {
		if fields>>i&1 == 1 {
			f.set()
			has = append(has, f.name)
		}
	}
	return s, has
}

// mayHave: has a step all of its fields, and no others?
func mayHave(form string, has []string) bool {
	wanted := strings.Fields(form)
	for _, f := range has {
		if !strings.Contains(" "+form+" ", " "+f+" ") {
			return false
		}
	}
	for _, f := range wanted {
		if !strings.HasSuffix(f, "?") && !strings.Contains(" "+strings.Join(has, " ")+" ", " "+f+" ") {
			return false
		}
	}
	return true
}

func TestFieldsOfSteps(t *testing.T) {
	for kind := -1; kind <= 12; kind++ {
		form, known := stepForms[kind]
		for exprs := range 6 {
			for fields := range 64 {
				s, has := stepWith(kind, exprs, fields)
				want := api.ErrForm
				if known && mayHave(form.fields, has) && (exprs == form.exprs || kind == api.Ask && exprs > 3) {
					want = api.OK
				}
				mustRefuse(t, fmt.Sprintf("E4: the step %+v", s), withSteps(s), want)
			}
		}
	}
	for _, kind := range []int{math.MinInt, math.MaxInt, 1 << 40} {
		mustRefuse(t, "E4", withSteps(api.Stmt{Kind: kind}), api.ErrForm)
	}
	// Lists that are there, and empty, are as none.
	s := api.Stmt{Kind: api.If, Exprs: []api.Expr{{Op: api.Self, Args: []api.Expr{}}}, Body: []api.Stmt{}, Else: []api.Stmt{}}
	mustPrint(t, "E4", withSteps(s), "contract c { fn f ( ) -> num { if self { } } }")
	s = api.Stmt{Kind: api.Need, Exprs: []api.Expr{num(1)}, Body: []api.Stmt{}, Else: []api.Stmt{}}
	mustPrint(t, "E4", withSteps(s), "contract c { fn f ( ) -> num { need 1 ; } }")
}

// exprForms: of each expression how many arguments it has (-1: any number), whether a name, and its greatest N.
var exprForms = map[int]struct {
	args  int
	named bool
	most  int
}{
	api.Number: {most: api.MaxNumber}, api.Truth: {most: 1}, api.Name: {named: true}, api.At: {named: true, args: 1}, api.Use: {named: true, args: -1},
	api.Or: {args: 2}, api.And: {args: 2}, api.Not: {args: 1}, api.Eq: {args: 2}, api.Ne: {args: 2}, api.Lt: {args: 2}, api.Le: {args: 2}, api.Gt: {args: 2}, api.Ge: {args: 2},
	api.Add: {args: 2}, api.Sub: {args: 2}, api.Mul: {args: 2}, api.Div: {args: 2}, api.Mod: {args: 2}, api.Self: {}, api.Caller: {}, api.Value: {}, api.Height: {},
	api.Balance: {args: 1}, api.AsWho: {args: 1}, api.AsNum: {args: 1},
}

func TestFieldsOfExpressions(t *testing.T) {
	for op := -1; op <= 30; op++ {
		form, known := exprForms[op]
		for args := range 5 {
			for _, name := range []string{"", "a"} {
				for _, n := range []int{math.MinInt, -1, 0, 1, 2, api.MaxNumber, api.MaxNumber + 1, math.MaxInt} {
					x := api.Expr{Op: op, N: n, Name: name}
					for i := range args {
						x.Args = append(x.Args, num(i))
					}
					want := api.ErrForm
					if known && (args == form.args || form.args < 0) && form.named == (name != "") && n >= 0 && n <= form.most {
						want = api.OK
					}
					mustRefuse(t, fmt.Sprintf("E4: the expression %+v", x), withExpr(x), want)
				}
			}
		}
	}
	mustRefuse(t, "E4", withExpr(api.Expr{Op: math.MinInt}), api.ErrForm)
	mustRefuse(t, "E4", withExpr(api.Expr{Op: math.MaxInt}), api.ErrForm)
}

// A fault of form is found wherever it is.
func TestFormWithin(t *testing.T) {
	wrong := num(-1)
	one, l := num(1), []api.Contract{}
	for _, s := range []api.Stmt{
		{Kind: api.Let, Name: "a", Type: 1, Exprs: []api.Expr{wrong}}, {Kind: api.Set, Name: "a", Exprs: []api.Expr{wrong}}, {Kind: api.Put, Name: "a", Exprs: []api.Expr{wrong, one}}, {Kind: api.Put, Name: "a", Exprs: []api.Expr{one, wrong}},
		{Kind: api.If, Exprs: []api.Expr{wrong}}, {Kind: api.While, Exprs: []api.Expr{wrong}}, {Kind: api.Give, Exprs: []api.Expr{wrong}}, {Kind: api.Need, Exprs: []api.Expr{wrong}}, {Kind: api.Tell, Exprs: []api.Expr{wrong}},
		{Kind: api.PayOut, Exprs: []api.Expr{wrong, one}}, {Kind: api.PayOut, Exprs: []api.Expr{one, wrong}}, {Kind: api.Ask, Name: "a", Also: "b", Call: "c", Exprs: []api.Expr{wrong, one, one}},
		{Kind: api.Ask, Name: "a", Also: "b", Call: "c", Exprs: []api.Expr{one, one, wrong}}, {Kind: api.Ask, Name: "a", Also: "b", Call: "c", Exprs: []api.Expr{one, one, one, one, wrong}},
	} {
		good := api.Stmt{Kind: api.Tell, Exprs: []api.Expr{one}}
		l = append(l, withSteps(s), withSteps(good, s, good),
			withSteps(api.Stmt{Kind: api.If, Exprs: []api.Expr{one}, Body: []api.Stmt{good, s}}),
			withSteps(api.Stmt{Kind: api.If, Exprs: []api.Expr{one}, Else: []api.Stmt{good, s}}),
			withSteps(api.Stmt{Kind: api.While, Exprs: []api.Expr{one}, Body: []api.Stmt{s}}))
	}
	for op, form := range exprForms {
		for k := range max(form.args, 0) {
			x := api.Expr{Op: op}
			if form.named {
				x.Name = "a"
			}
			for i := range form.args {
				x.Args = append(x.Args, num(1-2*map[bool]int{true: 1}[i == k]))
			}
			l = append(l, withExpr(x), withExpr(of(api.Not, x)))
		}
	}
	for i, c := range l {
		mustRefuse(t, fmt.Sprintf("E4: place %d", i), c, api.ErrForm)
	}
}

func TestPrintTooMany(t *testing.T) {
	for vars := range 36 {
		for slots := range vars + 1 {
			c := api.Contract{Name: "c"}
			for i := range vars {
				if i < slots {
					c.Slots = append(c.Slots, api.Param{Name: "a", Type: 1})
				} else {
					c.Tables = append(c.Tables, api.Table{Name: "a", From: 1, To: 1})
				}
			}
			mustRefuse(t, "E4: slots and maps", c, limitAbove(vars, 32))
		}
	}
	for n := range 36 {
		c := api.Contract{Name: "c"}
		for range n {
			c.Fns = append(c.Fns, api.Fn{Name: "f", Type: 1})
		}
		mustRefuse(t, "E4: functions", c, limitAbove(n, 32))
	}
	for n := range 12 {
		f := api.Fn{Name: "f", Type: 1}
		s := api.Stmt{Kind: api.Ask, Name: "a", Also: "b", Call: "c", Exprs: []api.Expr{num(1), num(2), num(3)}}
		x := api.Expr{Op: api.Use, Name: "f"}
		for range n {
			f.Params = append(f.Params, api.Param{Name: "a", Type: 1})
			s.Exprs = append(s.Exprs, num(4))
			x.Args = append(x.Args, num(5))
		}
		for _, c := range []api.Contract{{Name: "c", Fns: []api.Fn{{Name: "g", Type: 1}, f}}, withSteps(s), withExpr(x), withExpr(of(api.Not, of(api.Add, num(1), x))),
			withSteps(api.Stmt{Kind: api.If, Exprs: []api.Expr{num(1)}, Else: []api.Stmt{s}})} {
			mustRefuse(t, "E4: parameters and arguments", c, limitAbove(n, 8))
		}
	}
}

func limitAbove(n, most int) api.Errno {
	if n > most {
		return api.ErrLimit
	}
	return api.OK
}

// sized: a contract whose text has so many bytes.
func sized(n int) api.Contract {
	c := withSteps()
	add := func(s api.Stmt) { c.Fns[0].Body = append(c.Fns[0].Body, s) }
	left := n - len("contract c { fn f ( ) -> num { } }")
	for left > 60 {
		add(api.Stmt{Kind: api.Tell, Exprs: []api.Expr{num(1)}})
		left -= len("note 1 ; ")
	}
	for left > 20 {
		add(api.Stmt{Kind: api.Set, Name: "a", Exprs: []api.Expr{num(1)}})
		left -= len("a = 1 ; ")
	}
	c.Fns[0].Name = strings.Repeat("f", 1+left/2)
	c.Name = strings.Repeat("c", 1+left-left/2)
	return c
}

func TestPrintTooLong(t *testing.T) {
	for n := 2000; n < 2200; n++ {
		s, e := script.Print(sized(n))
		if e != limitAbove(n, api.MaxText) || len(s) != n && e == api.OK {
			t.Errorf("E4: %d bytes: %d, %d bytes", n, e, len(s))
		}
		mustRefuse(t, "E4", sized(n), limitAbove(n, api.MaxText))
	}
	for _, n := range []int{3000, 1 << 16, 1 << 20} {
		mustRefuse(t, "E4", sized(n), api.ErrLimit)
	}
}

// deepContracts: with so many levels, in each way in which levels are made.
func deepContracts(levels int) map[string]api.Contract {
	m := map[string]api.Contract{}
	around := func(how string, last api.Expr, one func(api.Expr) api.Expr) {
		x := last
		for range levels - 1 {
			x = one(x)
		}
		m[how] = withExpr(x)
	}
	around("m[|]", num(1), func(x api.Expr) api.Expr { return api.Expr{Op: api.At, Name: "m", Args: []api.Expr{x}} })
	around("g(|)", num(1), func(x api.Expr) api.Expr { return api.Expr{Op: api.Use, Name: "g", Args: []api.Expr{x}} })
	around("balance(|)", num(1), func(x api.Expr) api.Expr { return of(api.Balance, x) })
	around("who(|)", num(1), func(x api.Expr) api.Expr { return of(api.AsWho, x) })
	around("num(|)", num(1), func(x api.Expr) api.Expr { return of(api.AsNum, x) })
	around("not |", num(1), func(x api.Expr) api.Expr { return of(api.Not, x) })
	around("1 - (|)", of(api.Sub, num(1), num(1)), func(x api.Expr) api.Expr { return of(api.Sub, num(1), x) })
	around("(|) == 1", of(api.Eq, num(1), num(1)), func(x api.Expr) api.Expr { return of(api.Eq, x, num(1)) })
	for how, step := range map[string]api.Stmt{"while": {Kind: api.While}, "if": {Kind: api.If}, "else": {Kind: api.If}} {
		step.Exprs = []api.Expr{num(1)}
		var body []api.Stmt
		for range levels - 1 {
			s := step
			if how == "else" {
				s.Else = append(body, api.Stmt{Kind: api.Tell, Exprs: step.Exprs})
			} else {
				s.Body = body
			}
			body = []api.Stmt{s}
		}
		m[how] = withSteps(body...)
	}
	return m
}

func TestPrintTooDeep(t *testing.T) {
	for levels, want := range map[int]api.Errno{31: api.OK, 32: api.OK, 33: api.ErrDeep, 34: api.ErrDeep, 60: api.ErrDeep} {
		for how, c := range deepContracts(levels) {
			mustRefuse(t, fmt.Sprintf("E4: %d levels of %s", levels, how), c, want)
		}
	}
	// Where a level more is the last one.
	for levels, want := range map[int]api.Errno{31: api.OK, 32: api.ErrDeep} {
		for _, s := range []api.Stmt{
			{Kind: api.While, Exprs: []api.Expr{num(1)}}, {Kind: api.If, Exprs: []api.Expr{num(1)}}, {Kind: api.Put, Name: "m", Exprs: []api.Expr{num(1), num(1)}}, {Kind: api.Set, Name: "a", Exprs: []api.Expr{{Op: api.Use, Name: "g"}}},
			{Kind: api.Ask, Name: "a", Also: "b", Call: "c", Exprs: []api.Expr{num(1), num(1), num(1)}}, {Kind: api.PayOut, Exprs: []api.Expr{num(1), of(api.Not, num(1))}}, {Kind: api.Tell, Exprs: []api.Expr{of(api.Mul, num(1), of(api.Add, num(1), num(1)))}},
		} {
			body := []api.Stmt{s}
			for range levels - 1 {
				body = []api.Stmt{{Kind: api.While, Exprs: []api.Expr{num(1)}, Body: body}}
			}
			mustRefuse(t, fmt.Sprintf("E4: %d levels and %+v", levels, s), withSteps(body...), want)
		}
	}
	// Sums from the left need no brackets: nor have they levels.
	x, y := num(1), num(1)
	for range 300 {
		x, y = of(api.Add, x, num(1)), of(api.And, y, of(api.Not, num(1)))
	}
	mustRefuse(t, "E4: from the left", withExpr(x), api.OK)
	mustRefuse(t, "E4: from the left", withExpr(y), api.ErrLimit)
	x = num(1)
	for range 150 {
		x = of(api.Or, x, of(api.Not, num(1)))
	}
	mustRefuse(t, "E4: from the left", withExpr(x), api.OK)
}

// Of several faults the first is told: form, then how many and how long, then how deep.
func TestFaultsInOrder(t *testing.T) {
	deep := func() api.Contract { return deepContracts(40)["not |"] }
	c := deep()
	mustRefuse(t, "E4: deep", c, api.ErrDeep)
	for range 33 {
		c.Slots = append(c.Slots, api.Param{Name: "a", Type: 1})
	}
	mustRefuse(t, "E4: deep, and too many", c, api.ErrLimit)
	c.Fns = append(c.Fns, api.Fn{Name: "f", Type: 9})
	mustRefuse(t, "E4: deep, too many, and no kind", c, api.ErrForm)
	c = sized(4000)
	mustRefuse(t, "E4: too long", c, api.ErrLimit)
	c.Fns = append(c.Fns, deep().Fns...)
	mustRefuse(t, "E4: too long, and deep behind it", c, api.ErrLimit)
	c.Fns[1].Body[0].Exprs = append(c.Fns[1].Body[0].Exprs, num(1))
	mustRefuse(t, "E4: too long, deep, and an expression more than it takes", c, api.ErrForm)
	for how, c := range deepContracts(2000) {
		mustRefuse(t, "E4: long and deep: "+how, c, api.ErrLimit)
	}
	x := num(-1)
	for range 1 << 15 {
		x = of(api.Not, x)
	}
	mustRefuse(t, "E4: the fault of form is deepest", withExpr(x), api.ErrForm)
	mustRefuse(t, "E4: nothing", api.Contract{}, api.ErrForm)
}

func TestPrintChangesNothing(t *testing.T) {
	r := drawer(7)
	for range 500 {
		c := r.contract()
		before := told(c)
		s, e := script.Print(c)
		again, f := script.Print(c)
		if told(c) != before || s != again || e != f {
			t.Fatalf("P2: Print of %s", before)
		}
	}
}

package script_test

import (
	"math/rand"
	"strconv"
	"strings"

	"assize/api"
)

// Here contracts are drawn, and spelled out with all brackets that may be.

type artist struct{ *rand.Rand }

func drawer(seed int64) artist { return artist{rand.New(rand.NewSource(seed))} }

func (r artist) one(l ...string) string { return l[r.Intn(len(l))] }

func (r artist) name() string {
	return r.one("a", "b", "c", "x1", "my_name", "sixteen_letters_", "ors", "nott", "f", "g", "z_")
}

func (r artist) kind() int { return 1 + r.Intn(3) }

func (r artist) number() int {
	return []int{0, 1, 9, 10, 1234567890, api.MaxNumber}[r.Intn(6)]
}

func (r artist) exprs(n, deep int) []api.Expr {
	l := make([]api.Expr, n)
	for i := range l {
		l[i] = r.expr(deep)
	}
	return l
}

func (r artist) expr(deep int) api.Expr {
	op := api.Number + r.Intn(api.AsNum)
	if deep == 0 {
		op = []int{api.Number, api.Truth, api.Name, api.Self, api.Caller, api.Value, api.Height}[r.Intn(7)]
	}
	x := api.Expr{Op: op}
	switch op {
	case api.Number:
		x.N = r.number()
	case api.Truth:
		x.N = r.Intn(2)
	case api.Name:
		x.Name = r.name()
	case api.At:
		x.Name, x.Args = r.name(), r.exprs(1, deep-1)
	case api.Use:
		x.Name, x.Args = r.name(), r.exprs(r.Intn(9)*r.Intn(2), min(1, deep-1))
	case api.Not, api.Balance, api.AsWho, api.AsNum:
		x.Args = r.exprs(1, deep-1)
	case api.Self, api.Caller, api.Value, api.Height:
	default:
		x.Args = r.exprs(2, deep-1)
	}
	return x
}

func (r artist) block(deep int) []api.Stmt {
	l := make([]api.Stmt, r.Intn(3))
	for i := range l {
		l[i] = r.step(deep)
	}
	return l
}

func (r artist) step(deep int) api.Stmt {
	s := api.Stmt{Kind: api.Let + r.Intn(api.Ask)}
	if deep == 0 && (s.Kind == api.If || s.Kind == api.While) {
		s.Kind = api.Need
	}
	exprs := 1
	switch s.Kind {
	case api.Let:
		s.Name, s.Type = r.name(), r.kind()
	case api.Set:
		s.Name = r.name()
	case api.Put:
		s.Name, exprs = r.name(), 2
	case api.If:
		s.Body, s.Else = r.block(deep-1), r.block(deep-1)
	case api.While:
		s.Body = r.block(deep - 1)
	case api.PayOut:
		exprs = 2
	case api.Ask:
		s.Name, s.Also, s.Call, exprs = r.name(), r.name(), r.name(), 3+r.Intn(9)*r.Intn(2)
	}
	s.Exprs = r.exprs(exprs, r.Intn(4))
	return s
}

func (r artist) contract() api.Contract {
	c := api.Contract{Name: r.name()}
	for range r.Intn(3) {
		c.Slots = append(c.Slots, api.Param{Name: r.name(), Type: r.kind()})
	}
	for range r.Intn(3) {
		c.Tables = append(c.Tables, api.Table{Name: r.name(), From: r.kind(), To: r.kind()})
	}
	for range r.Intn(4) {
		f := api.Fn{Name: r.name(), Open: r.Intn(2) == 0, Type: r.kind(), Body: r.block(2)}
		for range r.Intn(9) * r.Intn(2) {
			f.Params = append(f.Params, api.Param{Name: r.name(), Type: r.kind()})
		}
		c.Fns = append(c.Fns, f)
	}
	return c
}

var kindNames = []string{"", "num", "flag", "who"}

var opNames = strings.Fields("- - - - - - or and not == != < <= > >= + - * / % self caller value height balance who num")

// spell: tokens of an expression, what is within it in brackets unless it is whole.
func spell(x api.Expr) string {
	l := make([]string, len(x.Args))
	for i, a := range x.Args {
		l[i] = spell(a)
		if x.Op >= api.Or && x.Op <= api.Mod && a.Op >= api.Or && a.Op <= api.Mod {
			l[i] = "( " + l[i] + " )"
		}
	}
	switch x.Op {
	case api.Number:
		return strconv.Itoa(x.N)
	case api.Truth:
		return []string{"false", "true"}[x.N]
	case api.Name:
		return x.Name
	case api.At:
		return x.Name + " [ " + l[0] + " ]"
	case api.Use:
		return x.Name + spellArgs(x.Args)
	case api.Not:
		return "not " + l[0]
	case api.Balance, api.AsWho, api.AsNum:
		return opNames[x.Op] + " ( " + l[0] + " )"
	case api.Self, api.Caller, api.Value, api.Height:
		return opNames[x.Op]
	}
	return l[0] + " " + opNames[x.Op] + " " + l[1]
}

func spellArgs(args []api.Expr) string {
	l := make([]string, len(args))
	for i, a := range args {
		l[i] = spell(a)
	}
	return " ( " + strings.Join(l, " , ") + " )"
}

func spellParam(p api.Param) string { return p.Name + " : " + kindNames[p.Type] }

func spellBlock(l []api.Stmt, empty string) string {
	var b strings.Builder
	b.WriteString("{ ")
	for _, s := range l {
		b.WriteString(spellStep(s, empty) + " ")
	}
	return b.String() + "}"
}

// spellStep: empty is what stands for an else that has no steps.
func spellStep(s api.Stmt, empty string) string {
	l := make([]string, len(s.Exprs))
	for i, x := range s.Exprs {
		l[i] = spell(x)
	}
	switch s.Kind {
	case api.Let:
		return "let " + s.Name + " : " + kindNames[s.Type] + " = " + l[0] + " ;"
	case api.Set:
		return s.Name + " = " + l[0] + " ;"
	case api.Put:
		return s.Name + " [ " + l[0] + " ] = " + l[1] + " ;"
	case api.If:
		if len(s.Else) == 0 {
			return "if " + l[0] + " " + spellBlock(s.Body, empty) + empty
		}
		return "if " + l[0] + " " + spellBlock(s.Body, empty) + " else " + spellBlock(s.Else, empty)
	case api.While:
		return "while " + l[0] + " " + spellBlock(s.Body, empty)
	case api.Give:
		return "return " + l[0] + " ;"
	case api.Need:
		return "need " + l[0] + " ;"
	case api.PayOut:
		return "pay " + l[0] + " , " + l[1] + " ;"
	case api.Tell:
		return "note " + l[0] + " ;"
	}
	return "ask " + s.Name + " , " + s.Also + " = " + l[0] + " . " + s.Call + spellArgs(s.Exprs[3:]) +
		" value " + l[1] + " gas " + l[2] + " ;"
}

func spellContract(c api.Contract, empty string) string {
	l := []string{"contract", c.Name, "{"}
	for _, s := range c.Slots {
		l = append(l, "slot", spellParam(s), ";")
	}
	for _, t := range c.Tables {
		l = append(l, "map", t.Name, ":", kindNames[t.From], "->", kindNames[t.To], ";")
	}
	for _, f := range c.Fns {
		if f.Open {
			l = append(l, "open")
		}
		params := make([]string, len(f.Params))
		for i, p := range f.Params {
			params[i] = spellParam(p)
		}
		l = append(l, "fn", f.Name, "(", strings.Join(params, " , "), ")", "->", kindNames[f.Type], spellBlock(f.Body, empty))
	}
	return strings.Join(strings.Fields(strings.Join(append(l, "}"), " ")), " ")
}

// deep: the text of an expression with about as many levels as may be.
func (r artist) deep() string {
	deep := spell(r.expr(2))
	for range 20 + r.Intn(14) {
		around := r.one("( | )", "m [ | ]", "g ( 1 , | )", "not |", "balance ( | )", "1 + ( | )", "not ( | )")
		deep = strings.Replace(around, "|", deep, 1)
	}
	return deep
}

// wide: the text of a contract with about as many of everything as may be.
func (r artist) wide() string {
	l := []string{"contract c {"}
	args := func(one string) string { return strings.TrimSuffix(strings.Repeat(one+" , ", 7+r.Intn(3)), ", ") }
	for range 60 + r.Intn(8) {
		l = append(l, r.one("slot a : num ;", "map m : num -> who ;", "fn f ( ) -> who { }", "open fn f ( ) -> num { }"))
	}
	for range 3 {
		l = append(l[:len(l)-1], r.one("fn f ( "+args("x : num")+" ) -> num { }", "fn f ( ) -> num { return g ( "+args("1")+" ) ; }"), l[len(l)-1])
	}
	return strings.Join(append(l, "}"), " ")
}

// unlike: a text with some of its tokens gone, doubled, others, or others between.
func (r artist) unlike(text string) string {
	l := strings.Fields(text)
	for range 1 + r.Intn(2) {
		k := r.Intn(len(l))
		other := r.one(strings.Fields(allWords + " " + allSigns + " x 7 01 @ ! _ seventeen_letters 1099511627776 # A")...)
		switch r.Intn(5) {
		case 0:
			l = append(l[:k:k], l[k+1:]...)
		case 1:
			l[k] = other
		case 2:
			l = append(l[:k:k], append([]string{other}, l[k:]...)...)
		case 3:
			l[k] = l[r.Intn(len(l))]
		default:
			l = l[:k]
		}
		if len(l) == 0 {
			return ""
		}
	}
	return strings.Join(l, " ")
}

package kinds_test

import (
	"strings"
	"testing"

	"assize/api"
	"assize/kinds"
)

// A hole: a place of a step or expression, what is right there, and what is wrong.
type hole struct {
	right string
	wrong map[string]api.Errno
}

func numHole() hole {
	return hole{"1", map[string]api.Errno{"true": api.ErrKind, "nothing": api.ErrName, "gn(1)": api.ErrCount, "1 + nothing": api.ErrName}}
}

func flagHole() hole {
	return hole{"true", map[string]api.Errno{"1": api.ErrKind, "nothing": api.ErrName, "gf()": api.ErrCount, "not 1": api.ErrKind}}
}

func whoHole() hole {
	return hole{"self", map[string]api.Errno{"1": api.ErrKind, "nothing": api.ErrName, "gw()": api.ErrCount, "gw(true)": api.ErrKind}}
}

// anyHole: where each kind may stand.
func anyHole() hole {
	return hole{"1", map[string]api.Errno{"nothing": api.ErrName, "gn(1)": api.ErrCount, "who(self)": api.ErrKind}}
}

func nameHole(right string, wrong ...string) hole {
	h := hole{right, map[string]api.Errno{"nothing": api.ErrName}}
	for _, w := range wrong {
		h.wrong[w] = api.ErrKind
	}
	return h
}

// blockHole: steps within a block.
func blockHole() hole {
	return hole{"note 1;", map[string]api.Errno{"note true;": api.ErrKind, "note nothing;": api.ErrName, "note gn(1);": api.ErrCount, "let sn: num = 1;": api.ErrDouble, "return 1; note 1;": api.ErrEnd}}
}

// K4: of a step or an expression with two faults the one that comes first is told. The holes stand in K4's order, @1 being the first.
func TestOrder(t *testing.T) {
	letName := hole{"v", map[string]api.Errno{"sn": api.ErrDouble, "pn": api.ErrDouble, "gn": api.ErrDouble}}
	for text, holes := range map[string][]hole{
		"let @2: num = @1;":        {numHole(), letName},
		"@1 = @2;":                 {nameHole("sn", "mn", "gn"), numHole()},
		"@1[@2] = @3;":             {nameHole("mn", "sn", "pn", "gn"), numHole(), numHole()},
		"if @1 { @2 } else { @3 }": {flagHole(), blockHole(), blockHole()},
		"if @1 { @2 @3 }":          {flagHole(), blockHole(), blockHole()},
		"while @1 { @2 }":          {flagHole(), blockHole()},
		"need @1; @2":              {flagHole(), blockHole()},
		"note @1; @2":              {numHole(), blockHole()},
		"pay @1, @2; @3":           {whoHole(), numHole(), blockHole()},
		"ask @1, @2 = @3.any(@6, @7) value @4 gas @5; @8": {nameHole("pf", "pn", "sf", "gn", "mf"), nameHole("pn", "pf", "sn", "gn", "mn"), whoHole(), numHole(), numHole(), anyHole(), anyHole(), blockHole()},
		"pn = @1[@2];":                {nameHole("mn", "sn", "pn", "gn"), numHole()},
		"pf = @1[@2];":                {nameHole("mf", "sf", "pf", "gf"), whoHole()},
		"pf = @1(@2, @3, @4);":        {nameHole("gf", "sf", "pf", "mf"), numHole(), flagHole(), whoHole()},
		"pn = balance(@1) + num(@2);": {whoHole(), whoHole()},
		"pw = who(@1); @2":            {numHole(), blockHole()},
		"pf = not @1; @2":             {flagHole(), blockHole()},
		"@1 @2 @3":                    {blockHole(), blockHole(), blockHole()},
	} {
		eachPair(t, text, holes)
	}
}

func eachPair(t *testing.T, text string, holes []hole) {
	t.Helper()
	fill := func(with map[int]string) string {
		s := text
		for i, h := range holes {
			w, ok := with[i]
			if !ok {
				w = h.right
			}
			s = strings.Replace(s, "@"+string(rune('1'+i)), w, 1)
		}
		return s
	}
	steps(t, "K4: all right", fill(nil), api.OK)
	for i, h := range holes {
		for w, want := range h.wrong {
			steps(t, "K4: one fault", fill(map[int]string{i: w}), want)
			for j := i + 1; j < len(holes); j++ {
				for v := range holes[j].wrong {
					steps(t, "K4: two faults", fill(map[int]string{i: w, j: v}), want)
				}
			}
		}
	}
}

// K4: of an expression its name, then how many arguments, then these, each ahead of what is wanted of it; of two both sides ahead.
func TestOrderWithin(t *testing.T) {
	for x, want := range map[string]api.Errno{
		"nothing(nothing)": api.ErrName, "sn(1 + true)": api.ErrKind, "gn(nothing)": api.ErrCount, "gn(1 + true)": api.ErrCount, "gf(nothing, 1)": api.ErrCount,
		"gf(1 + true, nothing, gn(1))": api.ErrKind, "gf(self, nothing, self)": api.ErrKind, "gf(nothing, 1, 1)": api.ErrName, "gf(1, gn(1), nothing)": api.ErrCount, "gf(1, 1, nothing)": api.ErrKind,
		"true + nothing": api.ErrName, "nothing + true": api.ErrName, "true + gn(1)": api.ErrCount, "true < nothing": api.ErrName, "1 or nothing": api.ErrName, "1 and gn(1)": api.ErrCount,
		"1 == gn(1)": api.ErrCount, "true == nothing": api.ErrName, "gn(1) == nothing": api.ErrCount, "nothing == gn(1)": api.ErrName, "self != nothing": api.ErrName,
		"(true + 1) + nothing": api.ErrKind, "nothing + (true + 1)": api.ErrName, "1 + (2 + (3 + nothing))": api.ErrName, "true + (1 + (2 + gn(1)))": api.ErrCount,
		"mn[nothing]": api.ErrName, "mn[gn(1)]": api.ErrCount, "mn[mn[true]]": api.ErrKind, "sn[nothing]": api.ErrKind, "nothing[true]": api.ErrName,
		"not nothing": api.ErrName, "not gn(1)": api.ErrCount, "balance(nothing)": api.ErrName, "who(gn(1))": api.ErrCount, "num(nothing)": api.ErrName,
	} {
		expression(t, "K4", x, want)
	}
	for s, want := range map[string]api.Errno{
		"nothing = true + 1;": api.ErrName, "mn = nothing;": api.ErrKind, "gn = nothing;": api.ErrKind, "sn[nothing] = nothing;": api.ErrKind, "nothing[true] = true;": api.ErrName,
		"mn[true] = nothing;": api.ErrKind, "mn[nothing] = true;": api.ErrName, "let sn: num = nothing;": api.ErrName, "let sn: num = gn(1);": api.ErrCount,
		"pay 1, nothing;": api.ErrKind, "pay nothing, true;": api.ErrName, "if 1 { note nothing; }": api.ErrKind, "if true { note nothing; } else { note true; }": api.ErrName,
		"if true { note true; } else { note nothing; }": api.ErrKind, "while 1 { note nothing; }": api.ErrKind,
		"ask nothing, pf = 1.any(nothing) value true gas true;": api.ErrName, "ask pn, nothing = 1.any() value 1 gas 1;": api.ErrKind, "ask pf, nothing = 1.any() value true gas 1;": api.ErrName,
		"ask pf, pn = pw.any(nothing) value gn(1) gas true;": api.ErrCount, "ask pf, pn = pw.any(nothing) value 1 gas true;": api.ErrKind, "ask pf, pn = 1.any(nothing) value nothing gas 1;": api.ErrKind,
	} {
		steps(t, "K4", s, want)
	}
}

// K1: functions one behind the other, each from its beginning on.
func TestOrderOfFunctions(t *testing.T) {
	for s, want := range map[string]api.Errno{
		"fn f() -> num { return true; } fn g() -> num { return nothing; }":                       api.ErrKind,
		"fn f() -> num { return nothing; } fn g() -> num { return true; }":                       api.ErrName,
		"fn f() -> num { note 1; } fn g() -> num { return true; }":                               api.ErrEnd,
		"fn f() -> num { return f(1); } fn g() -> num { note 1; }":                               api.ErrCount,
		"fn f(a: num, a: num) -> num { return nothing; }":                                        api.ErrDouble,
		"fn f(f: num) -> num { return true; }":                                                   api.ErrDouble,
		"fn f() -> num { return nothing; } fn g(g: num) -> num { return 1; }":                    api.ErrName,
		"fn f() -> num { note nothing; }":                                                        api.ErrName,
		"fn f() -> num { note true; note nothing; }":                                             api.ErrKind,
		"fn f() -> num { return true; } fn g() -> num { return 1; } fn g() -> num { return 1; }": api.ErrDouble,
		"fn f() -> num { return s; } slot s: flag;":                                              api.ErrKind,
		"fn f() -> flag { return s; } slot s: flag;":                                             api.OK,
	} {
		mustBe(t, "K1", "contract c { "+s+" }", want)
	}
}

func TestEnds(t *testing.T) {
	for body, want := range map[string]api.Errno{
		"":                                api.ErrEnd,
		"note 1;":                         api.ErrEnd,
		"return 1;":                       api.OK,
		"note 1; return 1;":               api.OK,
		"return 1; return 2;":             api.ErrEnd,
		"return 1; note 1;":               api.ErrEnd,
		"return 1; if true { }":           api.ErrEnd,
		"if true { return 1; }":           api.ErrEnd,
		"if true { } else { return 1; }":  api.ErrEnd,
		"if true { return 1; } else { }":  api.ErrEnd,
		"if true { return 1; } return 2;": api.OK,
		"if true { return 1; } else { return 2; }":                                                               api.OK,
		"if true { return 1; } else { return 2; } return 3;":                                                     api.ErrEnd,
		"if true { return 1; } else { return 2; } note 3;":                                                       api.ErrEnd,
		"if true { return 1; } else { note 2; } return 3;":                                                       api.OK,
		"if true { note 1; } else { return 2; } return 3;":                                                       api.OK,
		"if true { note 1; } else { note 2; }":                                                                   api.ErrEnd,
		"if true { return 1; note 1; } return 2;":                                                                api.ErrEnd,
		"if true { } else { return 1; note 1; } return 2;":                                                       api.ErrEnd,
		"while true { return 1; }":                                                                               api.ErrEnd,
		"while true { return 1; } return 2;":                                                                     api.OK,
		"while true { return 1; note 1; } return 2;":                                                             api.ErrEnd,
		"while true { } return 1;":                                                                               api.OK,
		"if true { if true { return 1; } else { return 2; } } else { return 3; }":                                api.OK,
		"if true { if true { return 1; } else { return 2; } note 1; } else { return 3; }":                        api.ErrEnd,
		"if true { if true { return 1; } else { note 2; } } else { return 3; }":                                  api.ErrEnd,
		"if true { if true { return 1; } return 2; } else { while true { } return 3; }":                          api.OK,
		"if true { return 1; } else { if true { return 2; } else { if true { return 3; } else { return 4; } } }": api.OK,
		"if true { while true { return 1; } } else { return 3; }":                                                api.ErrEnd,
		"need false;": api.ErrEnd,
		"if true { return 1; } else { return 2; } if true { return 1; } else { return 2; }": api.ErrEnd,
	} {
		mustBe(t, "K5", "contract c { fn f() -> num { "+body+" } }", want)
		mustBe(t, "K5", "contract c { fn g() -> num { return 1; } open fn f() -> num { "+body+" } }", want)
	}
}

// K5: the first fault is told, be it an end or another.
func TestEndsBesideOthers(t *testing.T) {
	for body, want := range map[string]api.Errno{
		"return true; note 1;":                                  api.ErrKind,
		"return nothing; note 1;":                               api.ErrName,
		"if true { return 1; note 1; } note nothing; return 1;": api.ErrEnd,
		"if true { note nothing; } return 1; note 1;":           api.ErrName,
		"while true { return 1; note 1; } let f: num = 1;":      api.ErrEnd,
		"let f: num = 1; return 1; note 1;":                     api.ErrDouble,
		"return 1; note nothing;":                               api.ErrEnd,
		"return 1; let f: num = true;":                          api.ErrEnd,
	} {
		mustBe(t, "K5", "contract c { fn f() -> num { "+body+" } }", want)
	}
}

// K5: an Else that is there without steps does not end.
func TestEmptyElse(t *testing.T) {
	give := []api.Stmt{{Kind: api.Give, Exprs: []api.Expr{{Op: api.Number}}}}
	choice := api.Stmt{Kind: api.If, Exprs: []api.Expr{{Op: api.Truth}}, Body: give, Else: []api.Stmt{}}
	for _, x := range []struct {
		body []api.Stmt
		want api.Errno
	}{{[]api.Stmt{choice}, api.ErrEnd}, {[]api.Stmt{choice, give[0]}, api.OK}} {
		c := api.Contract{Name: "c", Fns: []api.Fn{{Name: "f", Type: api.Num, Body: x.body}}}
		if got := kinds.Check(c); got != x.want {
			t.Errorf("K5: %+v: %d, not %d", c, got, x.want)
		}
	}
}

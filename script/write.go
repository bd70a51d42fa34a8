package script

import (
	"strconv"

	"assize/api"
)

// A writer writes contracts that are formed. What is behind MaxText bytes it
// lets be: there is no answer any more that would need it.
type writer struct {
	text       []byte
	level      int
	many, deep bool // more of something, or more levels, than may be
}

func (w *writer) long() bool { return len(w.text) > api.MaxText }

func (w *writer) say(tokens ...string) {
	for _, t := range tokens {
		if w.long() {
			return
		}
		if len(w.text) > 0 {
			w.text = append(w.text, ' ')
		}
		w.text = append(w.text, t...)
	}
}

func (w *writer) deeper() {
	w.level++
	w.deep = w.deep || w.level > api.MaxNest
}

func (w *writer) open(sign string) {
	w.deeper()
	w.say(sign)
}

func (w *writer) shut(sign string) {
	w.say(sign)
	w.level--
}

func (w *writer) room(have, most int) { w.many = w.many || have > most }

// separate writes each of l, with commas between.
func separate[T any](w *writer, l []T, one func(T)) {
	w.room(len(l), api.MaxArgs)
	for i, x := range l {
		if i > 0 {
			w.say(",")
		}
		one(x)
	}
}

func (w *writer) contract(c api.Contract) {
	w.room(len(c.Slots)+len(c.Tables), api.MaxVars)
	w.room(len(c.Fns), api.MaxFns)
	w.say("contract", c.Name, "{")
	for _, s := range c.Slots {
		w.say("slot")
		w.param(s)
		w.say(";")
	}
	for _, t := range c.Tables {
		w.say("map", t.Name, ":", kindWords[t.From], "->", kindWords[t.To], ";")
	}
	for _, f := range c.Fns {
		w.fn(f)
	}
	w.say("}")
}

func (w *writer) param(p api.Param) { w.say(p.Name, ":", kindWords[p.Type]) }

func (w *writer) fn(f api.Fn) {
	if f.Open {
		w.say("open")
	}
	w.say("fn", f.Name, "(")
	separate(w, f.Params, w.param)
	w.say(")", "->", kindWords[f.Type])
	w.block(f.Body)
}

func (w *writer) block(l []api.Stmt) {
	w.open("{")
	for _, s := range l {
		w.step(s)
	}
	w.shut("}")
}

func (w *writer) step(s api.Stmt) {
	if word := stepWords[s.Kind]; word != "" {
		w.say(word)
	}
	switch s.Kind {
	case api.If, api.While:
		w.branch(s)
		return
	case api.Let:
		w.param(api.Param{Name: s.Name, Type: s.Type})
		w.say("=")
		w.expr(s.Exprs[0], ors)
	case api.Set:
		w.say(s.Name, "=")
		w.expr(s.Exprs[0], ors)
	case api.Put:
		w.say(s.Name)
		w.inner("[", s.Exprs[0], "]")
		w.say("=")
		w.expr(s.Exprs[1], ors)
	case api.Ask:
		w.ask(s)
	case api.PayOut:
		w.expr(s.Exprs[0], ors)
		w.say(",")
		w.expr(s.Exprs[1], ors)
	default:
		w.expr(s.Exprs[0], ors)
	}
	w.say(";")
}

func (w *writer) branch(s api.Stmt) {
	w.expr(s.Exprs[0], ors)
	w.block(s.Body)
	if len(s.Else) > 0 {
		w.say("else")
		w.block(s.Else)
	}
}

func (w *writer) ask(s api.Stmt) {
	w.say(s.Name, ",", s.Also, "=")
	w.expr(s.Exprs[0], ors)
	w.say(".", s.Call)
	w.args(s.Exprs[3:])
	w.say("value")
	w.expr(s.Exprs[1], ors)
	w.say("gas")
	w.expr(s.Exprs[2], ors)
}

// expr writes an expression where one stands that holds together at least as tightly as its rank says.
func (w *writer) expr(x api.Expr, rank int) {
	own := rankOf(x.Op)
	switch {
	case own < rank:
		w.inner("(", x, ")")
	case own == atoms:
		w.atom(x)
	case own == nots:
		w.deeper()
		w.say("not")
		w.expr(x.Args[0], nots)
		w.level--
	default:
		w.pair(x, own)
	}
}

// pair writes an operator of two: they line from the left, but two comparisons can't follow each other.
func (w *writer) pair(x api.Expr, own int) {
	left := own
	if own == compares {
		left++
	}
	w.expr(x.Args[0], left)
	w.say(exprWords[x.Op])
	w.expr(x.Args[1], own+1)
}

func (w *writer) atom(x api.Expr) {
	switch x.Op {
	case api.Number:
		w.say(strconv.Itoa(x.N))
	case api.Truth:
		w.say(strconv.FormatBool(x.N == 1))
	case api.Name:
		w.say(x.Name)
	case api.At:
		w.say(x.Name)
		w.inner("[", x.Args[0], "]")
	case api.Use:
		w.say(x.Name)
		w.args(x.Args)
	default:
		w.say(exprWords[x.Op])
		if len(x.Args) > 0 {
			w.inner("(", x.Args[0], ")")
		}
	}
}

func (w *writer) inner(opens string, x api.Expr, closes string) {
	w.open(opens)
	w.expr(x, ors)
	w.shut(closes)
}

func (w *writer) args(l []api.Expr) {
	w.open("(")
	separate(w, l, func(x api.Expr) { w.expr(x, ors) })
	w.shut(")")
}

package script

import (
	"assize/api"
)

// A reader looks at one token at a time. With its first fault it stands before
// nothing for good: so whoever reads on finds nothing that it wants, and ends.
type reader struct {
	rest  string // what stands behind the token
	now   token
	level int
	fault api.Errno
}

func (r *reader) fail(e api.Errno) {
	if r.fault == api.OK {
		r.fault = e
	}
	r.now = token{}
}

// wrong is the fault of a token that can't stand there.
func (r *reader) wrong() {
	if r.now.class == end {
		r.fail(api.ErrShort)
		return
	}
	r.fail(api.ErrWord)
}

// next goes on to the next token.
func (r *reader) next() {
	if r.fault != api.OK {
		return
	}
	r.now, r.rest = cut(behindGap(r.rest))
	if r.now.class == none {
		r.wrong()
	}
}

// is: does this word or sign stand there?
func (r *reader) is(text string) bool { return r.now.class == fixed && r.now.text == text }

// ahead: is there something ahead of the sign that closes?
func (r *reader) ahead(closes string) bool { return r.fault == api.OK && !r.is(closes) }

func (r *reader) take(text string) {
	if !r.is(text) {
		r.wrong()
		return
	}
	r.next()
}

// deeper begins a level, with the token that stands there.
func (r *reader) deeper() {
	if r.level == api.MaxNest {
		r.fail(api.ErrDeep)
	}
	r.level++
}

func (r *reader) open(sign string) {
	if r.is(sign) {
		r.deeper()
	}
	r.take(sign)
}

func (r *reader) shut(sign string) {
	r.take(sign)
	r.level--
}

// room is a fault at the token that stands there, if there are as many as may be.
func (r *reader) room(have, most int) {
	if have >= most {
		r.fail(api.ErrLimit)
	}
}

func (r *reader) name() string {
	if r.now.class != name {
		r.wrong()
		return ""
	}
	s := r.now.text
	r.next()
	return s
}

func (r *reader) kind() int {
	for kind := api.Num; kind <= api.Who; kind++ {
		if r.is(kindWords[kind]) {
			r.next()
			return kind
		}
	}
	r.wrong()
	return 0
}

// commas reads what one reads, none or more with commas between, up to the bracket behind them.
func commas[T any](r *reader, one func() T) []T {
	if r.is(")") {
		return nil
	}
	l := []T{one()}
	for r.is(",") {
		r.room(len(l), api.MaxArgs)
		r.take(",")
		l = append(l, one())
	}
	return l
}

func (r *reader) contract() api.Contract {
	c := api.Contract{}
	r.take("contract")
	c.Name = r.name()
	r.take("{")
	for r.ahead("}") {
		r.item(&c)
	}
	r.take("}")
	return c
}

func (r *reader) item(c *api.Contract) {
	switch {
	case r.is("slot"):
		r.room(len(c.Slots)+len(c.Tables), api.MaxVars)
		r.take("slot")
		c.Slots = append(c.Slots, r.param())
		r.take(";")
	case r.is("map"):
		r.room(len(c.Slots)+len(c.Tables), api.MaxVars)
		c.Tables = append(c.Tables, r.table())
	case r.is("fn"), r.is("open"):
		r.room(len(c.Fns), api.MaxFns)
		c.Fns = append(c.Fns, r.fn())
	default:
		r.wrong()
	}
}

func (r *reader) param() api.Param {
	p := api.Param{Name: r.name()}
	r.take(":")
	p.Type = r.kind()
	return p
}

func (r *reader) table() api.Table {
	r.take("map")
	t := api.Table{Name: r.name()}
	r.take(":")
	t.From = r.kind()
	r.take("->")
	t.To = r.kind()
	r.take(";")
	return t
}

func (r *reader) fn() api.Fn {
	f := api.Fn{Open: r.is("open")}
	if f.Open {
		r.take("open")
	}
	r.take("fn")
	f.Name = r.name()
	r.take("(") // a function's own parameters are no level
	f.Params = commas(r, r.param)
	r.take(")")
	r.take("->")
	f.Type = r.kind()
	f.Body = r.block()
	return f
}

func (r *reader) block() []api.Stmt {
	var l []api.Stmt
	r.open("{")
	for r.ahead("}") {
		l = append(l, r.step())
	}
	r.shut("}")
	return l
}

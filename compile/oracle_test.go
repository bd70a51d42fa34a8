package compile_test

import (
	"fmt"
	"slices"
	"strconv"
	"strings"

	"assize/api"
)

// Here the chapter is told anew: each thing becomes lines; a line that ends with ":" is a mark, to which jumps lead by its name.

var opNames = strings.Fields("none Push Pop Load Store Plus Minus Times Over Rest Same Under Above Flip Jump Zero Enter Back Read Write Seek Stow Me From Paid High Purse Hand Say Must Reach")

type teller struct {
	contract api.Contract
	names    []string
	marks    int
	most     int
}

func lines(parts ...any) []string {
	var l []string
	for _, p := range parts {
		switch p := p.(type) {
		case string:
			l = append(l, p)
		case []string:
			l = append(l, p...)
		}
	}
	return l
}

func (o *teller) mark() string {
	o.marks++
	return "m" + strconv.Itoa(o.marks)
}

func with(word string, n int) string { return word + " " + strconv.Itoa(n) }

// variables: slots, then maps.
func (o *teller) variable(name string) int {
	var l []string
	for _, s := range o.contract.Slots {
		l = append(l, s.Name)
	}
	for _, t := range o.contract.Tables {
		l = append(l, t.Name)
	}
	return slices.Index(l, name)
}

func (o *teller) function(name string) int {
	return slices.IndexFunc(o.contract.Fns, func(f api.Fn) bool { return f.Name == name })
}

func (o *teller) exprs(l []api.Expr, locals []string) []string {
	var all []string
	for _, x := range l {
		all = append(all, o.expr(x, locals)...)
	}
	return all
}

var ofTwo = map[int]string{
	api.Eq: "Same", api.Ne: "Same Flip", api.Lt: "Under", api.Le: "Above Flip", api.Gt: "Above", api.Ge: "Under Flip",
	api.Add: "Plus", api.Sub: "Minus", api.Mul: "Times", api.Div: "Over", api.Mod: "Rest",
}

func (o *teller) expr(x api.Expr, locals []string) []string {
	parts := make([][]string, len(x.Args))
	for i, a := range x.Args {
		parts[i] = o.expr(a, locals)
	}
	switch x.Op {
	case api.Number, api.Truth:
		return lines(with("Push", x.N))
	case api.Name:
		if n := slices.Index(locals, x.Name); n >= 0 {
			return lines(with("Load", n))
		}
		return lines(with("Read", o.variable(x.Name)))
	case api.At:
		return lines(parts[0], with("Seek", o.variable(x.Name)))
	case api.Use:
		return lines(slices.Concat(parts...), with("Enter", o.function(x.Name)))
	case api.Or:
		other, end := o.mark(), o.mark()
		return lines(parts[0], "Zero "+other, "Push 1", "Jump "+end, other+":", parts[1], end+":")
	case api.And:
		push, end := o.mark(), o.mark()
		return lines(parts[0], "Zero "+push, parts[1], "Jump "+end, push+":", "Push 0", end+":")
	case api.Not:
		return lines(parts[0], "Flip")
	case api.Self:
		return lines("Me")
	case api.Caller:
		return lines("From")
	case api.Value:
		return lines("Paid")
	case api.Height:
		return lines("High")
	case api.Balance:
		return lines(parts[0], "Purse")
	case api.AsWho, api.AsNum:
		return parts[0]
	}
	return lines(parts[0], parts[1], strings.Fields(ofTwo[x.Op]))
}

// ends: K5.
func ends(l []api.Stmt) bool {
	for _, s := range l {
		if s.Kind == api.Give || s.Kind == api.If && ends(s.Body) && ends(s.Else) {
			return true
		}
	}
	return false
}

func (o *teller) block(l []api.Stmt, locals []string) []string {
	own := slices.Clone(locals)
	var all []string
	for _, s := range l {
		if s.Kind == api.Let {
			all = lines(all, o.expr(s.Exprs[0], own), with("Store", len(own)))
			own = append(own, s.Name)
			o.most = max(o.most, len(own))
			continue
		}
		all = append(all, o.step(s, own)...)
	}
	return all
}

func (o *teller) step(s api.Stmt, locals []string) []string {
	given := o.exprs(s.Exprs, locals)
	switch s.Kind {
	case api.Set:
		if n := slices.Index(locals, s.Name); n >= 0 {
			return lines(given, with("Store", n))
		}
		return lines(given, with("Write", o.variable(s.Name)))
	case api.Put:
		return lines(given, with("Stow", o.variable(s.Name)))
	case api.Give:
		return lines(given, "Back")
	case api.Need:
		return lines(given, "Must")
	case api.Tell:
		return lines(given, "Say")
	case api.PayOut:
		return lines(given, "Hand")
	case api.Ask:
		if !slices.Contains(o.names, s.Call) {
			o.names = append(o.names, s.Call)
		}
		x := s.Exprs
		return lines(o.exprs(append([]api.Expr{x[0]}, x[3:]...), locals), o.exprs(x[1:3], locals), fmt.Sprint("Reach ", len(x)-3, " ", slices.Index(o.names, s.Call)),
			with("Store", slices.Index(locals, s.Name)), with("Store", slices.Index(locals, s.Also)))
	case api.While:
		begin, end := o.mark(), o.mark()
		return lines(begin+":", given, "Zero "+end, o.block(s.Body, locals), "Jump "+begin, end+":")
	}
	other, end := o.mark(), o.mark()
	body := o.block(s.Body, locals)
	if len(s.Else) == 0 {
		return lines(given, "Zero "+end, body, end+":")
	}
	if !ends(s.Body) {
		body = append(body, "Jump "+end)
	}
	return lines(given, "Zero "+other, body, other+":", o.block(s.Else, locals), end+":")
}

// laid: instructions of lines: marks become places.
func laid(l []string) []api.Instr {
	places := map[string]int{}
	n := 0
	for _, s := range l {
		if m, ok := strings.CutSuffix(s, ":"); ok {
			places[m] = n
		} else {
			n++
		}
	}
	var body []api.Instr
	for _, s := range l {
		if strings.HasSuffix(s, ":") {
			continue
		}
		w := strings.Fields(s)
		i := api.Instr{Op: slices.Index(opNames, w[0])}
		if len(w) > 1 {
			at, ok := places[w[1]]
			if !ok {
				at, _ = strconv.Atoi(w[1])
			}
			i.A = at
		}
		if len(w) > 2 {
			i.B, _ = strconv.Atoi(w[2])
		}
		body = append(body, i)
	}
	return body
}

// oracle: the code of a contract that may be, be it too much or not.
func oracle(c api.Contract) api.Code {
	o := &teller{contract: c}
	made := api.Code{}
	for _, f := range c.Fns {
		var locals []string
		for _, p := range f.Params {
			locals = append(locals, p.Name)
		}
		o.most = len(locals)
		body := laid(o.block(f.Body, locals))
		made.Pieces = append(made.Pieces, api.Piece{Name: f.Name, Open: f.Open, Params: len(f.Params), Locals: o.most, Body: body})
	}
	made.Names = o.names
	return made
}

package tidy_test

import (
	"fmt"
	"slices"
	"strconv"
	"strings"
	"testing"

	"assize/api"
	"assize/code"
	"assize/tidy"
)

var opNames = strings.Fields("none Push Pop Load Store Plus Minus Times Over Rest Same Under Above Flip Jump Zero Enter Back Read Write Seek Stow Me From Paid High Purse Hand Say Must Reach")

// instrs: of words: "Push 3, Back"; a second number is B.
func instrs(s string) []api.Instr {
	var l []api.Instr
	for _, one := range strings.Split(s, ",") {
		w := strings.Fields(one)
		i := api.Instr{Op: slices.Index(opNames, w[0])}
		if i.Op < 1 {
			panic("no instruction: " + one)
		}
		if len(w) > 1 {
			i.A, _ = strconv.Atoi(w[1])
		}
		if len(w) > 2 {
			i.B, _ = strconv.Atoi(w[2])
		}
		l = append(l, i)
	}
	return l
}

// words: a body as instrs has it.
func words(body []api.Instr) string {
	var l []string
	for _, i := range body {
		s := opNames[i.Op]
		switch s {
		case "Reach":
			s += fmt.Sprint(" ", i.A, " ", i.B)
		case "Push", "Load", "Store", "Jump", "Zero", "Enter", "Read", "Write", "Seek", "Stow":
			s += fmt.Sprint(" ", i.A)
		}
		l = append(l, s)
	}
	return strings.Join(l, ", ")
}

// one: code of the piece f, which is open, and of one that it may enter.
func one(body string) api.Code {
	return api.Code{Names: []string{"g", "f"}, Pieces: []api.Piece{
		{Name: "f", Open: true, Params: 1, Locals: 3, Body: instrs(body)},
		{Name: "h", Params: 2, Locals: 2, Body: instrs("Load 0, Load 1, Plus, Back")},
	}}
}

// faces: all of a code but its bodies.
func faces(c api.Code) string {
	s := fmt.Sprintf("%q", c.Names)
	for _, p := range c.Pieces {
		s += fmt.Sprintf(" %q %v %d %d", p.Name, p.Open, p.Params, p.Locals)
	}
	return s
}

// tidied: what Tidy gives of code that may run; whatever the code is, this must hold of it.
func tidied(t *testing.T, c api.Code) api.Code {
	t.Helper()
	before := fmt.Sprint(c)
	if e := code.Check(c); e != api.OK {
		t.Fatalf("a test's code that may not run: %v: %d", c, e)
	}
	y, e := tidy.Tidy(c)
	if e != api.OK {
		t.Fatalf("Y1: Tidy of %v: %d", c, e)
	}
	if e := code.Check(y); e != api.OK {
		t.Fatalf("Y1: %v, tidied, may not run: %v: %d", c, y, e)
	}
	if faces(c) != faces(y) {
		t.Fatalf("Y1: %v, tidied, has other names or numbers: %v", c, y)
	}
	for k, p := range y.Pieces {
		if len(p.Body) > len(c.Pieces[k].Body) {
			t.Fatalf("Y1: %s is longer, tidied: %s", words(c.Pieces[k].Body), words(p.Body))
		}
		if s := untidy(p.Body); s != "" {
			t.Fatalf("Y2: %s, tidied, has %s: %s", words(c.Pieces[k].Body), s, words(p.Body))
		}
	}
	if again, e := tidy.Tidy(y); e != api.OK || fmt.Sprint(again) != fmt.Sprint(y) {
		t.Fatalf("Y2: %v, tidied %v, tidied again %v, %d", c, y, again, e)
	}
	if fmt.Sprint(c) != before {
		t.Fatalf("P2: Tidy changes %s", before)
	}
	return y
}

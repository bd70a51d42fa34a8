package kinds

import (
	"assize/api"
)

// What a name stands for.
const (
	slots = iota + 1
	tables
	fns
	locals
)

// A thing that has a name: place is where it stands among its like (of a local
// nothing), kind that of its value (of a map nothing).
type thing struct {
	name  string
	what  int
	place int
	kind  int
}

// A checker goes through a contract from its beginning on, and keeps its first
// fault: what it finds behind that one, misled by it, is not told.
type checker struct {
	contract api.Contract
	things   []thing // those that are visible, the locals behind
	answer   int     // the kind that the function gives
	fault    api.Errno
}

func (k *checker) fail(e api.Errno) {
	if k.fault == api.OK {
		k.fault = e
	}
}

// find is what has a name: a thing that is nothing, if nothing has.
func (k *checker) find(name string) thing {
	for _, t := range k.things {
		if t.name == name {
			return t
		}
	}
	return thing{}
}

func (k *checker) declare(t thing) {
	if k.find(t.name).what != 0 {
		k.fail(api.ErrDouble)
	}
	k.things = append(k.things, t)
}

func (k *checker) declareAll() {
	for i, s := range k.contract.Slots {
		k.declare(thing{name: s.Name, what: slots, place: i, kind: s.Type})
	}
	for i, t := range k.contract.Tables {
		k.declare(thing{name: t.Name, what: tables, place: i})
	}
	for i, f := range k.contract.Fns {
		k.declare(thing{name: f.Name, what: fns, place: i, kind: f.Type})
	}
}

// used is the thing of a name; of one that may not stand there nothing is left.
func (k *checker) used(name string, may func(thing) bool) thing {
	t := k.find(name)
	if t.what == 0 {
		k.fail(api.ErrName)
		return thing{}
	}
	if !may(t) {
		k.fail(api.ErrKind)
		return thing{}
	}
	return t
}

// variable is the kind of a local or a slot.
func (k *checker) variable(name string) int {
	return k.used(name, func(t thing) bool { return t.what == locals || t.what == slots }).kind
}

// asked: a name behind ask.
func (k *checker) asked(name string, kind int) {
	k.used(name, func(t thing) bool { return t.what == locals && t.kind == kind })
}

func (k *checker) table(name string) api.Table {
	t := k.used(name, func(t thing) bool { return t.what == tables })
	if t.what == 0 {
		return api.Table{}
	}
	return k.contract.Tables[t.place]
}

func (k *checker) function(name string) api.Fn {
	t := k.used(name, func(t thing) bool { return t.what == fns })
	if t.what == 0 {
		return api.Fn{}
	}
	return k.contract.Fns[t.place]
}

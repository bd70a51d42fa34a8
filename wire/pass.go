package wire

import (
	"math/bits"
	"strings"

	"assize/api"
)

// A pass goes once over the fields of a thing, from the left on, and writes
// them or reads them. One way for both: so Get can't read another order, or
// other bounds, than Put writes.
type pass struct {
	reading bool
	out     []byte // what was written
	rest    string // what is still to be read
}

// refusal is what a pass panics with when it gives up.
type refusal api.Errno

func refuse(e api.Errno) { panic(refusal(e)) }

// attempt tells why do gave up: OK, if it did not. A panic that is no refusal
// is a fault of the program: it is not hidden as an answer.
func attempt(do func()) (e api.Errno) {
	defer func() {
		cause := recover()
		if cause == nil {
			return
		}
		r, ok := cause.(refusal)
		if !ok {
			panic(cause)
		}
		e = api.Errno(r)
	}()
	do()
	return api.OK
}

// put writes x by walk, if it may be. The bounds are asked of all of x ahead
// of what may be in any part of it.
func put[T any](x T, walk func(*pass, *T), may func(T) bool) (string, api.Errno) {
	p := &pass{}
	e := attempt(func() { walk(p, &x) })
	if e == api.OK && !may(x) {
		e = api.ErrForm
	}
	if e != api.OK {
		return "", e
	}
	return string(p.out), api.OK
}

// get reads by walk what put writes by it.
func get[T any](s string, walk func(*pass, *T), may func(T) bool) (T, api.Errno) {
	var x, none T
	p := &pass{reading: true, rest: s}
	e := attempt(func() {
		walk(p, &x)
		p.end()
	})
	if e == api.OK && !may(x) {
		e = api.ErrForm
	}
	if e != api.OK {
		return none, e
	}
	return x, api.OK
}

// list goes over how many l has, and over each by one.
func list[T any](p *pass, l *[]T, most int, one func(*pass, *T)) {
	n := len(*l)
	p.bounded(&n, most)
	if p.reading {
		*l = make([]T, n)
	}
	for i := range n {
		one(p, &(*l)[i])
	}
}

func (p *pass) end() {
	if p.rest != "" {
		refuse(api.ErrLong)
	}
}

// cut takes the next n bytes off.
func (p *pass) cut(n int) string {
	if n > len(p.rest) {
		refuse(api.ErrShort)
	}
	s := p.rest[:n]
	p.rest = p.rest[n:]
	return s
}

func (p *pass) number(n *int) { p.bounded(n, api.MaxNumber) }

func (p *pass) numbers(l ...*int) {
	for _, n := range l {
		p.number(n)
	}
}

// bounded goes over a number of 0 to most.
func (p *pass) bounded(n *int, most int) {
	if p.reading {
		*n = p.readNumber()
	}
	if *n < 0 || *n > most {
		refuse(api.ErrLimit)
	}
	if !p.reading {
		p.writeNumber(*n)
	}
}

func (p *pass) writeNumber(n int) {
	size := (bits.Len(uint(n)) + 7) / 8
	p.out = append(p.out, byte(size))
	p.out = append(p.out, Five(n)[5-size:]...)
}

func (p *pass) readNumber() int {
	size := int(p.cut(1)[0])
	if size > 5 {
		refuse(api.ErrForm)
	}
	s := p.cut(size)
	if size > 0 && s[0] == 0 {
		refuse(api.ErrForm)
	}
	return int(valueOf(s))
}

func (p *pass) digest(d *api.Digest) {
	if p.reading {
		*d = api.Digest(valueOf(p.cut(8)))
		return
	}
	p.out = append(p.out, Eight(*d)...)
}

func (p *pass) digests(l ...*api.Digest) {
	for _, d := range l {
		p.digest(d)
	}
}

func (p *pass) flag(f *bool) {
	if p.reading {
		*f = p.readFlag()
		return
	}
	b := byte(0)
	if *f {
		b = 1
	}
	p.out = append(p.out, b)
}

func (p *pass) readFlag() bool {
	b := p.cut(1)[0]
	if b > 1 {
		refuse(api.ErrForm)
	}
	return b == 1
}

func (p *pass) text(s *string, most int) {
	n := len(*s)
	p.bounded(&n, most)
	if p.reading {
		*s = strings.Clone(p.cut(n)) // a mere cut would keep all bytes that were handed in
		return
	}
	p.out = append(p.out, *s...)
}

// highFirst writes the lowest bytes of n, size of them.
func highFirst(n uint64, size int) string {
	b := make([]byte, size)
	for i := range size {
		b[size-1-i] = byte(n >> (8 * i))
	}
	return string(b)
}

// valueOf reads what highFirst writes.
func valueOf(s string) uint64 {
	n := uint64(0)
	for i := range len(s) {
		n = n<<8 | uint64(s[i])
	}
	return n
}

package code_test

import (
	"fmt"
	"math/rand"
	"testing"

	"assize/api"
	"assize/code"
)

type artist struct{ *rand.Rand }

// fill: an instruction with an A and a B that may be, if any may.
func (r artist) fill(op int, c api.Code, p api.Piece) api.Instr {
	i := api.Instr{Op: op}
	if m := most(all[op].a, c, p); m > 0 {
		i.A = r.Intn(m + 1)
	}
	if m := most(all[op].b, c, p); m > 0 {
		i.B = r.Intn(m + 1)
	}
	return i
}

// flowing: a body that may run: a straight one, then jumps in it that lead to places of the same height.
func (r artist) flowing(c api.Code, p api.Piece, steps int) []api.Instr {
	var body []api.Instr
	var heights []int
	height := 0
	add := func(i api.Instr) {
		heights = append(heights, height)
		body = append(body, i)
		height += toNumber(all[i.Op].leaves) - taken(c, i)
	}
	for len(body) < steps || height == 0 {
		op := api.Push + r.Intn(api.Reach)
		if op == api.Jump || op == api.Back || most(all[op].a, c, p) < 0 || most(all[op].b, c, p) < 0 {
			op = api.Push
		}
		i := r.fill(op, c, p)
		if height < taken(c, i) || height > 60 {
			i = api.Instr{Op: []int{api.Me, api.Pop}[min(height/30, 1)]}
		}
		add(i)
	}
	for height > 1 {
		add(api.Instr{Op: api.Pop})
	}
	add(api.Instr{Op: api.Back})
	for at, i := range body {
		if i.Op == api.Zero {
			body[at].A = r.level(heights, at+1)
		}
		if at > 0 && r.Intn(12) == 0 && i.Op != api.Back && heights[at+1] == heights[at] {
			body[at] = api.Instr{Op: api.Jump, A: r.level(heights, at)}
		}
	}
	return body
}

// level: a place of the same height as that one.
func (r artist) level(heights []int, at int) int {
	var l []int
	for k, h := range heights {
		if h == heights[at] {
			l = append(l, k)
		}
	}
	return l[r.Intn(len(l))]
}

func (r artist) code() api.Code {
	c := api.Code{Names: []string{"a", "b", "c"}[:r.Intn(4)], Pieces: make([]api.Piece, 1+r.Intn(3))}
	for k := range c.Pieces {
		n := r.Intn(4)
		c.Pieces[k] = api.Piece{Params: n, Locals: n + r.Intn(4)}
	}
	for k, p := range c.Pieces {
		c.Pieces[k].Body = r.flowing(c, p, r.Intn(30))
	}
	return c
}

// spoil: something is another than it was.
func (r artist) spoil(c *api.Code) {
	p := &c.Pieces[r.Intn(len(c.Pieces))]
	at := r.Intn(len(p.Body))
	switch r.Intn(9) {
	case 0:
		p.Body[at].Op = r.Intn(33) - 1
	case 1:
		p.Body[at].A = r.Intn(len(p.Body)+3) - 1
	case 2:
		p.Body[at].B = r.Intn(5) - 1
	case 3:
		p.Body = p.Body[:at]
	case 4:
		p.Body = append(p.Body[:at], p.Body[at+1:]...)
	case 5:
		p.Params = r.Intn(10) - 1
	case 6:
		p.Locals = r.Intn(35) - 1
	case 7:
		c.Names = c.Names[:r.Intn(len(c.Names)+1)]
	default:
		p.Body[at] = r.fill(1+r.Intn(30), *c, *p)
	}
}

// C2: what Check says of codes that are drawn, of good ones and of others.
func TestDrawn(t *testing.T) {
	r := artist{rand.New(rand.NewSource(7))}
	counts := map[api.Errno]int{}
	for n := range 20000 {
		c := r.code()
		if n%5 > 0 {
			r.spoil(&c)
		}
		before := fmt.Sprint(c)
		want := oracle(c)
		if n%5 == 0 && want != api.OK {
			t.Fatalf("drawn to be good, and is not: %v", c)
		}
		got := code.Check(c)
		if got != want {
			t.Fatalf("C2: %v: %d, not %d", c, got, want)
		}
		if fmt.Sprint(c) != before {
			t.Fatalf("P2: Check changes %s", before)
		}
		counts[got]++
	}
	if counts[api.OK] < 2000 || counts[api.ErrCode] < 2000 || counts[api.ErrLimit] < 50 {
		t.Errorf("drawn too seldom: %v", counts)
	}
}

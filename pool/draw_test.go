package pool_test

import (
	"math/rand"
	"slices"
	"testing"

	"assize/api"
	"assize/pool"
	"assize/wire"
)

// plain is a pool as the chapter tells it: a heap of transactions, all of which are gone through for each question.
type plain struct {
	room int
	list []api.Tx
}

func (p *plain) at(from, nonce int) int {
	return slices.IndexFunc(p.list, func(t api.Tx) bool { return t.From == from && t.Nonce == nonce })
}

// isLast: has its sender none of a greater number?
func (p *plain) isLast(t api.Tx) bool {
	return !slices.ContainsFunc(p.list, func(x api.Tx) bool { return x.From == t.From && x.Nonce > t.Nonce })
}

func (p *plain) add(t api.Tx, nonce int) api.Errno {
	if _, e := wire.PutTx(t); e != api.OK {
		return e
	}
	if t.Nonce < nonce || t.Nonce > nonce+15 {
		return api.ErrNonce
	}
	if i := p.at(t.From, t.Nonce); i >= 0 {
		old := p.list[i]
		switch {
		case same([]api.Tx{old}, []api.Tx{t}):
			return api.ErrSaid
		case t.Price*10 < old.Price*11, t.Price == old.Price:
			return api.ErrPrice
		}
		p.list[i] = t
		return api.OK
	}
	if len(p.list) >= p.room {
		goes := -1
		for i, x := range p.list {
			if x.From == t.From || !p.isLast(x) {
				continue
			}
			if goes < 0 || x.Price < p.list[goes].Price || x.Price == p.list[goes].Price && x.From > p.list[goes].From {
				goes = i
			}
		}
		if goes < 0 || t.Price <= p.list[goes].Price {
			return api.ErrFull
		}
		p.list = slices.Delete(p.list, goes, goes+1)
	}
	p.list = append(p.list, t)
	return api.OK
}

func (p *plain) forget(from, nonce int) {
	p.list = slices.DeleteFunc(p.list, func(t api.Tx) bool { return t.From == from && t.Nonce < nonce })
}

func (p *plain) all() []api.Tx {
	l := slices.Clone(p.list)
	slices.SortFunc(l, func(a, b api.Tx) int { return 1000*(a.From-b.From) + a.Nonce - b.Nonce })
	return l
}

func (p *plain) pick(next map[int]int, gas, most int) []api.Tx {
	var chosen []api.Tx
	passed := map[int]int{}
	at := map[int]int{}
	for len(chosen) < most {
		best := -1
		for i, t := range p.list {
			if t.Nonce != next[t.From]+at[t.From] || passed[t.From] > 0 {
				continue
			}
			if best < 0 || t.Price > p.list[best].Price || t.Price == p.list[best].Price && t.From < p.list[best].From {
				best = i
			}
		}
		if best < 0 {
			break
		}
		t := p.list[best]
		if t.Limit > gas {
			passed[t.From]++
			continue
		}
		chosen, gas = append(chosen, t), gas-t.Limit
		at[t.From]++
	}
	return chosen
}

func drawn(r *rand.Rand) api.Tx {
	t := pay(1+r.Intn(4), r.Intn(6), r.Intn(30))
	t.Limit, t.Amount = 14+r.Intn(9), r.Intn(2)
	switch r.Intn(60) {
	case 0:
		t.Price = top + 1
	case 1:
		t.To = 0
	case 2:
		t.Nonce = 16 + r.Intn(3)
	}
	return t
}

func TestPoolsAsToldAnew(t *testing.T) {
	r := rand.New(rand.NewSource(17))
	told := map[api.Errno]int{}
	chosen := 0
	for range 1500 {
		room := r.Intn(12)
		a, b := pool.New(room), &plain{room: room}
		for range r.Intn(60) {
			x, n := drawn(r), r.Intn(4)
			if len(b.list) > 0 && r.Intn(20) == 0 {
				x = b.list[r.Intn(len(b.list))]
			}
			e, f := a.Add(x, n), b.add(x, n)
			if e != f {
				t.Fatalf("Q2: where %v wait, with room for %d, Add(%v, %d) is %d, not %d", b.list, room, x, n, e, f)
			}
			told[e]++
			if r.Intn(8) == 0 {
				from, n := r.Intn(5), r.Intn(5)
				a.Forget(from, n)
				b.forget(from, n)
			}
			wait(t, "Q1 to Q3", a, b.all()...)
		}
		next := map[int]int{1: r.Intn(3), 2: r.Intn(3), 3: r.Intn(3), 4: r.Intn(3)}
		gas, most := r.Intn(250), r.Intn(9)
		got, want := a.Pick(nonces(next), gas, most), b.pick(next, gas, most)
		if !same(got, want) {
			t.Fatalf("Q4: of %v Pick(%v, %d, %d) is %v, not %v", b.all(), next, gas, most, got, want)
		}
		chosen += len(got)
	}
	for _, e := range []api.Errno{api.OK, api.ErrForm, api.ErrLimit, api.ErrNonce, api.ErrSaid, api.ErrPrice, api.ErrFull} {
		if told[e] < 20 {
			t.Errorf("what is drawn comes to little: %d is told %d times", e, told[e])
		}
	}
	if chosen < 500 {
		t.Errorf("what is drawn comes to little: %d are chosen", chosen)
	}
}

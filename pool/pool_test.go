package pool_test

import (
	"math"
	"slices"
	"testing"

	"assize/api"
	"assize/pool"
)

func TestNew(t *testing.T) {
	for _, room := range []int{math.MinInt, -1, 0} {
		p := pool.New(room)
		wait(t, "Q1: a new pool", p)
		if e := p.Add(pay(1, 0, top), 0); e != api.ErrFull {
			t.Errorf("Q1: a pool with room for %d takes one: %d", room, e)
		}
		wait(t, "Q1: a pool without room", p)
	}
	wait(t, "Q1: a pool with all room", filled(t, math.MaxInt, pay(1, 0, 0), pay(2, 0, 0)), pay(1, 0, 0), pay(2, 0, 0))
}

func TestAllBySenderAndNumber(t *testing.T) {
	p := filled(t, 9, pay(3, 2, 1), pay(1, 9, 2), pay(3, 0, 3), pay(2, 4, 4), pay(1, 10, 5), pay(top, top, 6), pay(3, 1, 7), pay(1, 2, 8))
	wait(t, "Q1", p, pay(1, 2, 8), pay(1, 9, 2), pay(1, 10, 5), pay(2, 4, 4), pay(3, 0, 3), pay(3, 1, 7), pay(3, 2, 1), pay(top, top, 6))
}

func TestAddAsksForNumbers(t *testing.T) {
	for _, x := range []struct {
		what  string
		t     api.Tx
		nonce int
		room  int
		want  api.Errno
	}{
		{"the next one", pay(1, 5, 1), 5, 1, api.OK},
		{"below", pay(1, 4, 1), 5, 1, api.ErrNonce},
		{"far below", pay(1, 0, 1), math.MaxInt, 1, api.ErrNonce},
		{"the last of sixteen", pay(1, 20, 1), 5, 1, api.OK},
		{"beyond sixteen", pay(1, 21, 1), 5, 1, api.ErrNonce},
		{"far beyond", pay(1, top, 1), 0, 1, api.ErrNonce},
		{"beyond all that is below 0", pay(1, 0, 1), math.MinInt, 1, api.ErrNonce},
		{"sixteen from below 0", pay(1, 0, 1), -16, 1, api.ErrNonce},
		{"fifteen from below 0", pay(1, 0, 1), -15, 1, api.OK},
		{"the greatest of all", pay(1, top, 1), top, 1, api.OK},
		{"a kind that is none, and a number", change(pay(1, 4, 1), func(t *api.Tx) { t.Kind = 11 }), 5, 1, api.ErrForm},
		{"a number that may not be", pay(1, top+1, 1), top + 1, 1, api.ErrLimit},
		{"a number below 0", pay(1, -1, 1), -1, 1, api.ErrLimit},
		{"a price that may not be", pay(1, 5, top+1), 5, 1, api.ErrLimit},
		{"nobody's", pay(0, 5, 1), 5, 1, api.ErrForm},
		{"a number, and no room", pay(1, 4, 1), 5, 0, api.ErrNonce},
		{"no form, and no room", pay(0, 5, 1), 5, 0, api.ErrForm},
	} {
		p := pool.New(x.room)
		if got := p.Add(x.t, x.nonce); got != x.want {
			t.Errorf("Q2: Add, %s: %d, not %d", x.what, got, x.want)
		}
		if (p.Len() == 1) != (x.want == api.OK) {
			t.Errorf("Q2: Add, %s: %d wait", x.what, p.Len())
		}
	}
}

func TestAddInAnothersPlace(t *testing.T) {
	for _, x := range []struct {
		what string
		old  int
		t    api.Tx
		want api.Errno
	}{
		{"the same", 10, pay(1, 3, 10), api.ErrSaid},
		{"the same without a price", 0, pay(1, 3, 0), api.ErrSaid},
		{"another of the same price", 10, change(pay(1, 3, 10), func(t *api.Tx) { t.Amount = 2 }), api.ErrPrice},
		{"another without a price", 0, change(pay(1, 3, 0), func(t *api.Tx) { t.Amount = 2 }), api.ErrPrice},
		{"a lower price", 10, pay(1, 3, 9), api.ErrPrice},
		{"none any more", 10, pay(1, 3, 0), api.ErrPrice},
		{"just a tenth more", 10, pay(1, 3, 11), api.OK},
		{"more, but not a tenth", 11, pay(1, 3, 12), api.ErrPrice},
		{"more than a tenth", 11, pay(1, 3, 13), api.OK},
		{"almost a tenth", 100, pay(1, 3, 109), api.ErrPrice},
		{"a tenth", 100, pay(1, 3, 110), api.OK},
		{"some, where there was none", 0, pay(1, 3, 1), api.OK},
		{"the greatest price, too little", top - 1, pay(1, 3, top), api.ErrPrice},
		{"the greatest price", top / 2, pay(1, 3, top), api.OK},
		{"another limit alone", 10, change(pay(1, 3, 10), func(t *api.Tx) { t.Limit = 17 }), api.ErrPrice},
	} {
		// There is no room: what takes another's place wants none, and sends nobody away.
		p := filled(t, 2, pay(1, 3, x.old), pay(2, 0, 0))
		if got := p.Add(x.t, 3); got != x.want {
			t.Errorf("Q2: Add, %s: %d, not %d", x.what, got, x.want)
		}
		first := pay(1, 3, x.old)
		if x.want == api.OK {
			first = x.t
		}
		wait(t, "Q2: "+x.what, p, first, pay(2, 0, 0))
	}
}

func TestAddSendsAway(t *testing.T) {
	waiting := []api.Tx{pay(1, 0, 1), pay(1, 1, 9), pay(2, 5, 7), pay(2, 6, 4), pay(3, 0, 4), pay(3, 1, 6), pay(4, 0, 6)}
	for _, x := range []struct {
		what string
		t    api.Tx
		want api.Errno
		goes int // which one
	}{
		{"the cheapest of the last ones", pay(5, 0, 5), api.OK, 3},
		{"of the same price", pay(5, 0, 4), api.ErrFull, -1},
		{"cheaper", pay(5, 0, 3), api.ErrFull, -1},
		{"of its own sender none goes", pay(2, 7, 7), api.OK, 6},
		{"its own sender's price does not count", pay(2, 7, 6), api.ErrFull, -1},
		{"ahead of its own ones", pay(2, 4, 8), api.OK, 6},
		{"dear", pay(1, 2, top), api.OK, 3},
	} {
		p := filled(t, len(waiting), waiting...)
		if got := p.Add(x.t, x.t.Nonce); got != x.want {
			t.Errorf("Q2: Add, %s: %d, not %d", x.what, got, x.want)
		}
		want := slices.Clone(waiting)
		if x.want == api.OK {
			want = append(slices.Delete(want, x.goes, x.goes+1), x.t)
			slices.SortFunc(want, func(a, b api.Tx) int { return 100*(a.From-b.From) + a.Nonce - b.Nonce })
		}
		wait(t, "Q2: "+x.what, p, want...)
	}
}

func TestAddWhereAllAreOnesOwn(t *testing.T) {
	p := filled(t, 2, pay(1, 0, 1), pay(1, 1, 1))
	if e := p.Add(pay(1, 2, 9), 0); e != api.ErrFull {
		t.Errorf("Q2: where all are of one sender another of it: %d", e)
	}
	if e := p.Add(pay(2, 0, 2), 0); e != api.OK {
		t.Errorf("Q2: where all are of one sender one of another: %d", e)
	}
	wait(t, "Q2", p, pay(1, 0, 1), pay(2, 0, 2))
	// Now the last one of 1 is its first one.
	if e := p.Add(pay(2, 1, 2), 0); e != api.OK {
		t.Errorf("Q2: the last one of a sender that goes: %d", e)
	}
	wait(t, "Q2: a sender of whom all went", p, pay(2, 0, 2), pay(2, 1, 2))
	if e := p.Add(pay(2, 2, 9), 0); e != api.ErrFull {
		t.Errorf("Q2: a sender of whom all went is still there: %d", e)
	}
}

func TestForget(t *testing.T) {
	waiting := []api.Tx{pay(1, 0, 1), pay(1, 2, 1), pay(1, 3, 1), pay(2, 0, 1), pay(2, 1, 1)}
	for _, x := range []struct {
		what        string
		from, nonce int
		want        []api.Tx
	}{
		{"none below", 1, 0, waiting},
		{"below 0", 1, math.MinInt, waiting},
		{"one", 1, 1, waiting[1:]},
		{"one, up to one that waits", 1, 2, waiting[1:]},
		{"two", 1, 3, waiting[2:]},
		{"all of a sender", 1, 4, waiting[3:]},
		{"all of a sender, from above", 2, math.MaxInt, waiting[:3]},
		{"of one who sends nothing", 3, 9, waiting},
		{"of nobody", 0, 9, waiting},
		{"of one below 0", -1, 9, waiting},
	} {
		p := filled(t, 5, waiting...)
		p.Forget(x.from, x.nonce)
		wait(t, "Q3: "+x.what, p, x.want...)
		if free := 5 - len(x.want); free > 0 {
			if e := p.Add(pay(7, 0, 0), 0); e != api.OK {
				t.Errorf("Q3: %s: there is no room where some went: %d", x.what, e)
			}
		} else if e := p.Add(pay(7, 0, 0), 0); e != api.ErrFull {
			t.Errorf("Q3: %s: there is room where none went: %d", x.what, e)
		}
	}
}

func TestPick(t *testing.T) {
	a0, a1, a2, a4 := pay(1, 0, 5), pay(1, 1, 9), pay(1, 2, 2), pay(1, 4, 99)
	b3, b4 := pay(2, 3, 5), pay(2, 4, 1)
	c0 := change(pay(3, 0, 7), func(t *api.Tx) { t.Limit = 40 })
	c1 := pay(3, 1, 8)
	all := []api.Tx{a0, a1, a2, a4, b3, b4, c0, c1}
	next := map[int]int{2: 3}
	for _, x := range []struct {
		what      string
		next      map[int]int
		gas, most int
		want      []api.Tx
	}{
		{"all that can", next, 999, 99, []api.Tx{c0, c1, a0, a1, b3, a2, b4}},
		{"so many alone", next, 999, 4, []api.Tx{c0, c1, a0, a1}},
		{"none", next, 999, 0, nil},
		{"fewer than none", next, 999, -1, nil},
		{"fewer than none by far", next, math.MaxInt, math.MinInt, nil},
		{"just the gas of all", next, 40 + 6*16, 99, []api.Tx{c0, c1, a0, a1, b3, a2, b4}},
		{"a little less gas", next, 40 + 6*16 - 1, 99, []api.Tx{c0, c1, a0, a1, b3, a2}},
		{"who is passed over stays so", next, 39, 99, []api.Tx{a0, a1}},
		{"passed over, at most one", next, 39, 1, []api.Tx{a0}},
		{"gas for one", next, 16, 99, []api.Tx{a0}},
		{"gas for none", next, 15, 99, nil},
		{"no gas", next, 0, 99, nil},
		{"gas below 0", next, math.MinInt, 99, nil},
		{"all gas", next, math.MaxInt, math.MaxInt, []api.Tx{c0, c1, a0, a1, b3, a2, b4}},
		{"none of one whose next one does not wait", map[int]int{}, 999, 99, []api.Tx{c0, c1, a0, a1, a2}},
		{"from the middle on", map[int]int{1: 1, 2: 4, 3: 1}, 999, 99, []api.Tx{a1, c1, a2, b4}},
		{"behind a gap", map[int]int{1: 4, 2: 5, 3: 2}, 999, 99, []api.Tx{a4}},
		{"in a gap", map[int]int{1: 3, 3: 9}, 999, 99, nil},
		{"below 0 and above all", map[int]int{1: math.MinInt, 2: math.MaxInt, 3: -1}, 999, 99, nil},
	} {
		p := filled(t, 9, all...)
		if got := p.Pick(nonces(x.next), x.gas, x.most); !same(got, x.want) {
			t.Errorf("Q4: Pick, %s: %v, not %v", x.what, got, x.want)
		}
		wait(t, "Q4: "+x.what, p, all...)
	}
	if got := pool.New(3).Pick(zero, 99, 9); len(got) != 0 {
		t.Errorf("Q4: Pick of an empty pool: %v", got)
	}
}

func TestPickWithoutGas(t *testing.T) {
	free := change(pay(1, 0, 0), func(t *api.Tx) { t.Limit = 0 })
	p := filled(t, 3, free, pay(2, 0, 1))
	if got := p.Pick(zero, 0, 9); !same(got, []api.Tx{free}) {
		t.Errorf("Q4: what wants no gas, where there is none: %v", got)
	}
}

func TestPickAsksOnce(t *testing.T) {
	p := filled(t, 9, pay(3, 0, 1), pay(1, 0, 1), pay(3, 1, 1), pay(2, 5, 1))
	for _, most := range []int{9, 1, 0} {
		var asked []int
		p.Pick(func(who int) int {
			asked = append(asked, who)
			return 0
		}, 999, most)
		slices.Sort(asked)
		if !slices.Equal(asked, []int{1, 2, 3}) {
			t.Errorf("Q4: Pick, of %d at most, asks for the numbers of %v", most, asked)
		}
	}
}

func TestPoolsAreTheirOwn(t *testing.T) {
	in := rich(1, 0)
	p := filled(t, 3, in)
	in.Sights[0].Cert.Froms[0], in.Sights[0].Seats[1].Weight = 77, 78
	wait(t, "P2: what was handed in was changed", p, rich(1, 0))
	one, other := p.All(), p.Pick(zero, 99, 9)
	one[0].Sights[0].Cert.Froms[0], one[0].Sights[0].Seats[1].Weight = 77, 78
	if !same(other, []api.Tx{rich(1, 0)}) {
		t.Errorf("P2: All and Pick share something: %v", other)
	}
	other[0].Sights[0].Header.Height, other[0].Sights[0].Cert.Froms[2] = 9, 79
	wait(t, "P2: what was handed out was changed", p, rich(1, 0))
	if got := p.Pick(zero, 99, 9); !same(got, []api.Tx{rich(1, 0)}) {
		t.Errorf("P2: what Pick handed out was changed: %v", got)
	}
}

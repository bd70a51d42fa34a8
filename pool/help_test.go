package pool_test

import (
	"slices"
	"testing"

	"assize/api"
	"assize/pool"
	"assize/wire"
)

const top = api.MaxNumber

// pay is a payment that wants 16 gas.
func pay(from, nonce, price int) api.Tx {
	return api.Tx{Kind: api.Pay, From: from, Nonce: nonce, Price: price, Limit: 16, To: 9, Amount: 1}
}

func change(t api.Tx, how func(*api.Tx)) api.Tx {
	how(&t)
	return t
}

// filled is a pool in which these wait.
func filled(t *testing.T, room int, l ...api.Tx) *pool.Pool {
	t.Helper()
	p := pool.New(room)
	for _, x := range l {
		if e := p.Add(x, x.Nonce); e != api.OK {
			t.Fatalf("Add(%v): %d", x, e)
		}
	}
	return p
}

func same(a, b []api.Tx) bool {
	return slices.EqualFunc(a, b, func(x, y api.Tx) bool {
		s, e := wire.PutTx(x)
		r, f := wire.PutTx(y)
		return e == api.OK && f == api.OK && s == r
	})
}

// wait asks whether just these wait, by sender and number.
func wait(t *testing.T, what string, p *pool.Pool, want ...api.Tx) {
	t.Helper()
	if got := p.All(); !same(got, want) || p.Len() != len(want) {
		t.Errorf("%s: %v wait, and Len is %d, not %v", what, got, p.Len(), want)
	}
}

// nonces tells next numbers; of those whom it does not name 0.
func nonces(l map[int]int) func(int) int {
	return func(who int) int { return l[who] }
}

func zero(int) int { return 0 }

// rich is a transaction with lists in lists.
func rich(from, nonce int) api.Tx {
	return api.Tx{Kind: api.Show, From: from, Nonce: nonce, Limit: 64, Sights: []api.Sight{{
		Cert:  api.Cert{Stage: api.Second, Froms: []int{1, 2, 3}},
		Seats: []api.Seat{{Who: 1, Weight: 1}, {Who: 2, Weight: 5}},
	}}}
}

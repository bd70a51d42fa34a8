package fetch_test

import (
	"math/rand"
	"slices"
	"testing"

	"assize/api"
	"assize/fetch"
	"assize/state"
	"assize/trie"
	"assize/world"
)

// Who sees headers alone fetches the state that it believes in from nodes of which one lies: so it has what they have.
func TestAStateThatIsBelievedIn(t *testing.T) {
	g := api.Genesis{Chain: 1, Width: 8, Epoch: 2, Gas: 900, Starts: []api.Start{
		{Who: 1, Balance: 500, Bond: 2}, {Who: 2, Balance: 500, Bond: 2}, {Who: 3, Balance: 500, Bond: 2}, {Who: 4, Balance: 500, Bond: 1}, {Who: 50, Balance: 9000},
	}}
	w, e := world.New(g, []int{4})
	if e != api.OK {
		t.Fatalf("X1: New: %d", e)
	}
	for i := range 12 {
		w.Submit(1+i%4, api.Tx{Kind: api.Pay, From: 50, Nonce: i, Limit: 16, To: 60 + i, Amount: 10 + i})
	}
	w.Calm(6)
	v, _ := world.View(g)
	v, _ = w.Show(4, v, []int{2, 4, 6})
	if v.Height != 6 {
		t.Fatalf("X7: it believes %v", v)
	}
	f, r := fetch.New(v.Width, v.State), rand.New(rand.NewSource(26))
	for l := f.Wants(5); len(l) > 0; l = f.Wants(5) {
		who := w.Who()[r.Intn(4)]
		n, _ := w.Node(who)
		tip, _ := n.Tip(v.Height)
		way := l[r.Intn(len(l))]
		says := nodeAt(t, tip.Tree(), way)
		if who == 4 {
			says = marred(r, says)
		}
		f.Give(who, way, says)
	}
	tree, e := f.Done()
	if e != api.OK || !slices.Equal(f.Barred(), []int{4}) {
		t.Fatalf("F3: done: %d; barred are %v", e, f.Barred())
	}
	if own, _ := state.Money(tree); own != 11007 {
		t.Errorf("F3: what was fetched has %d", own)
	}
	for i := range 12 {
		if a := state.New(tree).Account(60 + i); a != (api.Account{Balance: 10 + i}) {
			t.Errorf("F3: %d has %v", 60+i, a)
		}
	}
	// What is fetched proves what the nodes' own does.
	key := state.AccountKey(65)
	p, _ := tree.Prove(key)
	if s, e := trie.Check(v.Width, v.State, key, p); e != api.OK || s != tree.Get(key) || s == "" {
		t.Errorf("F3: a proof out of it shows %q, %d", s, e)
	}
}

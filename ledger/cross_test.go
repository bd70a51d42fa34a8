package ledger_test

import (
	"testing"

	"assize/api"
	"assize/bench"
	"assize/ledger"
	"assize/light"
	"assize/state"
	"assize/trie"
	"assize/wire"
)

func TestParcelKey(t *testing.T) {
	for n, want := range map[int]string{
		0: "o\x00\x00\x00\x00\x00", 258: "o\x00\x00\x00\x01\x02", top: "o\xff\xff\xff\xff\xff",
		top + 1: "o\x00\x00\x00\x00\x00", -1: "o\xff\xff\xff\xff\xff",
	} {
		if got := ledger.ParcelKey(n); got != want {
			t.Errorf("G3: ParcelKey(%d) is %q, not %q", n, got, want)
		}
	}
}

// parcelAt is the parcel that stands there; none is all 0.
func parcelAt(s *state.State, n int) api.Parcel {
	p, _ := wire.GetParcel(s.Get(ledger.ParcelKey(n)))
	return p
}

func wantsParcel(t *testing.T, s *state.State, n int, want api.Parcel, count int) {
	t.Helper()
	if parcelAt(s, n) != want || s.Count("out") != count {
		t.Errorf("G3: the parcel %d is %v, not %v; the count is %d, not %d", n, parcelAt(s, n), want, s.Count("out"), count)
	}
}

func TestSend(t *testing.T) {
	x := api.Tx{Kind: api.Send, From: 1, Price: 1, Limit: 30, To: top, Amount: 20}
	s := begun(t, accounts{1: {Balance: 200}})
	stands(t, "G3: Send", s, envOf(), x, api.Result{Used: 24}, accounts{1: {Balance: 156, Nonce: 1}, api.Gate: {Balance: 20}})
	wantsParcel(t, s, 0, api.Parcel{Kind: api.Ours, To: top, Amount: 20}, 1)
	x.Nonce, x.To, x.Amount = 1, 1, 0
	stands(t, "G3: Send of nothing", s, envOf(), x, api.Result{Used: 24, Value: 1}, accounts{1: {Balance: 132, Nonce: 2}, api.Gate: {Balance: 20}})
	wantsParcel(t, s, 1, api.Parcel{Kind: api.Ours, To: 1}, 2)
	wantsParcel(t, s, 0, api.Parcel{Kind: api.Ours, To: top, Amount: 20}, 2)

	x.Nonce, x.Amount = 0, 20
	s = begun(t, accounts{1: {Balance: 200}, api.Gate: {Balance: top - 19}})
	fails(t, "G3: the Gate has no room", s, x, api.Result{Code: api.ErrLimit, Used: 24})
	s = begun(t, accounts{1: {Balance: 200}, api.Gate: {Balance: top - 20}})
	stands(t, "G3: the Gate has just room", s, envOf(), x, api.Result{Used: 24}, accounts{api.Gate: {Balance: top}})
}

func TestReturn(t *testing.T) {
	x := api.Tx{Kind: api.Return, From: 1, Price: 1, Limit: 24, To: 3, Amount: 20}
	s := begun(t, accounts{1: {Balance: 200, Foreign: 20}})
	stands(t, "G3: Return", s, envOf(), x, api.Result{Used: 24}, accounts{1: {Balance: 176, Nonce: 1}, api.Gate: {}, 3: {}})
	wantsParcel(t, s, 0, api.Parcel{Kind: api.Theirs, To: 3, Amount: 20}, 1)
	s = begun(t, accounts{1: {Balance: 200, Foreign: 19}})
	fails(t, "G3: Return of more than there is", s, x, api.Result{Code: api.ErrFunds, Used: 24})
	// Of Return the balance is asked for the gas alone.
	s = begun(t, accounts{1: {Balance: 24, Foreign: 25}})
	s.SetCount("out", 7)
	stands(t, "G3: Return of some", s, envOf(), x, api.Result{Used: 24, Value: 7}, accounts{1: {Foreign: 5, Nonce: 1}})
	wantsParcel(t, s, 7, api.Parcel{Kind: api.Theirs, To: 3, Amount: 20}, 8)
}

func TestParcelsAtTheEnd(t *testing.T) {
	for _, kind := range []int{api.Send, api.Return} {
		x := api.Tx{Kind: kind, From: 1, Price: 1, Limit: 24, To: 3, Amount: 20}
		s := begun(t, accounts{1: {Balance: 200, Foreign: 50}})
		s.SetCount("out", top-1)
		stands(t, "G3: the last parcel", s, envOf(), x, api.Result{Used: 24, Value: top - 1}, nil)
		x.Nonce = 1
		fails(t, "G3: a parcel beyond the last", s, x, api.Result{Code: api.ErrLimit, Used: 24})
	}
}

// other is another ledger: a tree with these parcels, and a bench that decides on its headers.
type other struct {
	tree  trie.Tree
	seats []api.Seat
}

func otherOf(l ...string) other {
	x := other{tree: trie.New(8), seats: []api.Seat{{Who: 1, Weight: 3}, {Who: 2, Weight: 1}}}
	for i, s := range l {
		x.tree, _ = x.tree.Put(ledger.ParcelKey(i), s)
	}
	return x
}

func written(p api.Parcel) string {
	s, _ := wire.PutParcel(p)
	return s
}

func (x other) view() api.View {
	return api.View{Chain: 2, Width: 8, Epoch: 3, Height: 4, State: x.tree.Root(), Seats: x.seats}
}

func (x other) proof(n int) api.Proof {
	p, _ := x.tree.Prove(ledger.ParcelKey(n))
	return p
}

// sight is a header of a height, with a state, that the other's bench has decided on.
func (x other) sight(height int, is api.Digest) api.Sight {
	next := []api.Seat{{Who: 2, Weight: 1}, {Who: 5, Weight: 6}}
	h := api.Header{Chain: 2, Height: height, Parent: 1, State: is, Bench: bench.Digest(8, next), Proposer: 2}
	return api.Sight{Header: h, Seats: next, Cert: api.Cert{Height: height, Stage: api.Second, Has: true, Block: light.Name(8, h), Froms: []int{1}}}
}

func believes(t *testing.T, s *state.State, v api.View) {
	t.Helper()
	w, e := wire.PutView(v)
	if e != api.OK || s.Set("v", w) != api.OK {
		t.Fatalf("PutView(%v): %d", v, e)
	}
}

func TestShow(t *testing.T) {
	o := otherOf()
	x := api.Tx{Kind: api.Show, From: 1, Price: 1, Limit: 64, Sights: []api.Sight{o.sight(5, 77)}}
	s := begun(t, accounts{1: {Balance: 500}})
	fails(t, "G3: Show without a view", s, x, api.Result{Code: api.ErrStart, Used: 64})
	x.Nonce = 1
	s.Set("v", "\x01")
	fails(t, "G3: Show with something else than a view", s, x, api.Result{Code: api.ErrStart, Used: 64})

	believes(t, s, o.view())
	x.Nonce = 2
	stands(t, "G3: Show", s, envOf(), x, api.Result{Used: 64}, accounts{1: {Balance: 500 - 3*64, Nonce: 3}})
	want := o.view()
	want.Height, want.State, want.Seats = 5, 77, x.Sights[0].Seats
	if w, _ := wire.PutView(want); s.Get("v") != w {
		got, e := wire.GetView(s.Get("v"))
		t.Errorf("G3: behind Show %v (%d) is believed, not %v", got, e, want)
	}
	x.Nonce = 3
	fails(t, "G3: Show once more", s, x, api.Result{Code: api.ErrHeight, Used: 64})
	x.Nonce, x.Sights = 4, []api.Sight{o.sight(7, 77)}
	fails(t, "G3: Show of another epoch", s, x, api.Result{Code: api.ErrFar, Used: 64})
	x.Nonce, x.Sights = 5, []api.Sight{o.sight(6, 77)}
	fails(t, "G3: Show of one who has no seat any more", s, x, api.Result{Code: api.ErrSeat, Used: 64})

	without := o.view()
	without.Seats = nil
	believes(t, s, without)
	x.Nonce = 6
	s.SetAccount(1, api.Account{Balance: 500, Nonce: 6})
	fails(t, "G3: Show to a view without seats", s, x, api.Result{Code: api.ErrForm, Used: 64})
}

func claimOf(nonce int, p api.Proof) api.Tx {
	return api.Tx{Kind: api.Claim, From: 1, Nonce: nonce, Price: 1, Limit: 48, Proofs: []api.Proof{p}}
}

func TestClaim(t *testing.T) {
	o := otherOf(
		written(api.Parcel{Kind: api.Ours, To: 3, Amount: 20}),
		written(api.Parcel{Kind: api.Theirs, To: 3, Amount: 30}),
		written(api.Parcel{Kind: api.Ours, To: 1, Amount: 4}),
		written(api.Parcel{Kind: api.Theirs, To: 1, Amount: 5}),
		written(api.Parcel{Kind: api.Theirs, To: 3, Amount: 6}),
	)
	s := begun(t, accounts{1: {Balance: 1000}, api.Gate: {Balance: 40}})
	fails(t, "G3: Claim without a view", s, claimOf(0, o.proof(0)), api.Result{Code: api.ErrStart, Used: 48})
	believes(t, s, o.view())
	fails(t, "G3: Claim of another parcel", s, claimOf(1, o.proof(2)), api.Result{Code: api.ErrForm, Used: 48})
	empty := begun(t, accounts{1: {Balance: 1000}})
	none := o.view()
	none.State = trie.New(8).Root()
	believes(t, empty, none)
	fails(t, "G3: Claim where no parcel is", empty, claimOf(0, api.Proof{}), api.Result{Code: api.ErrPlace, Used: 48})
	fails(t, "G3: Claim of a proof of another tree", s, claimOf(2, api.Proof{}), api.Result{Code: api.ErrRoot, Used: 48})

	stands(t, "G3: Claim of Ours", s, envOf(), claimOf(3, o.proof(0)), api.Result{Used: 48}, accounts{3: {Foreign: 20}, api.Gate: {Balance: 40}})
	stands(t, "G3: Claim of Theirs", s, envOf(), claimOf(4, o.proof(1)), api.Result{Used: 48, Value: 1}, accounts{3: {Foreign: 20, Balance: 30}, api.Gate: {Balance: 10}})
	paid := 6 * 48
	stands(t, "G3: Claim of Ours, one's own", s, envOf(), claimOf(5, o.proof(2)), api.Result{Used: 48, Value: 2}, accounts{1: {Balance: 1000 - paid, Foreign: 4, Nonce: 6}})
	paid += 48
	stands(t, "G3: Claim of Theirs, one's own", s, envOf(), claimOf(6, o.proof(3)), api.Result{Used: 48, Value: 3}, accounts{1: {Balance: 1005 - paid, Foreign: 4, Nonce: 7}, api.Gate: {Balance: 5}})
	fails(t, "G3: Claim of one that was claimed", s, claimOf(7, o.proof(3)), api.Result{Code: api.ErrForm, Used: 48})
	fails(t, "G3: Claim of more than the Gate has", s, claimOf(8, o.proof(4)), api.Result{Code: api.ErrFunds, Used: 48})
	if s.Count("in") != 4 || s.Count("out") != 0 {
		t.Errorf("G3: %d are claimed", s.Count("in"))
	}
}

func TestClaimOfWhatIsNoParcel(t *testing.T) {
	for value, want := range map[string]api.Errno{
		"\x01":                     api.ErrShort,
		"\x01\x03\x01\x01\x00":     api.ErrForm,
		"\x01\x01\x00\x00":         api.ErrForm,
		"\x01\x01\x01\x01\x00!":    api.ErrLong,
		"\x01\x01\x01\x01\x01":     api.ErrShort,
		"\x01\x01\x02\x00\x01\x00": api.ErrForm,
	} {
		o := otherOf(value)
		s := begun(t, accounts{1: {Balance: 1000}})
		believes(t, s, o.view())
		fails(t, "G3: Claim of no parcel", s, claimOf(0, o.proof(0)), api.Result{Code: want, Used: 48})
	}
}

func TestClaimAtTheEnd(t *testing.T) {
	full := written(api.Parcel{Kind: api.Ours, To: 3, Amount: 20})
	o := otherOf(full)
	s := begun(t, accounts{1: {Balance: 1000}, 3: {Foreign: top - 19}})
	believes(t, s, o.view())
	fails(t, "G3: Claim beyond the most", s, claimOf(0, o.proof(0)), api.Result{Code: api.ErrLimit, Used: 48})
	s.SetAccount(3, api.Account{Foreign: top - 20})
	stands(t, "G3: Claim up to the most", s, envOf(), claimOf(1, o.proof(0)), api.Result{Used: 48}, accounts{3: {Foreign: top}})

	home := otherOf(written(api.Parcel{Kind: api.Theirs, To: 3, Amount: 20}))
	s = begun(t, accounts{1: {Balance: 1000}, 3: {Balance: top - 19}, api.Gate: {Balance: 20}})
	believes(t, s, home.view())
	fails(t, "G3: Claim beyond the most", s, claimOf(0, home.proof(0)), api.Result{Code: api.ErrLimit, Used: 48})

	// The count comes ahead of the money.
	o.tree, _ = o.tree.Put(ledger.ParcelKey(top), written(api.Parcel{Kind: api.Theirs, To: 3, Amount: 20}))
	s = begun(t, accounts{1: {Balance: 1000}})
	believes(t, s, o.view())
	s.SetCount("in", top)
	fails(t, "G3: Claim behind the last", s, claimOf(0, o.proof(top)), api.Result{Code: api.ErrLimit, Used: 48})
}

func TestClaimByNarrowDigests(t *testing.T) {
	o := other{tree: trie.New(3), seats: otherOf().seats}
	o.tree, _ = o.tree.Put(ledger.ParcelKey(0), written(api.Parcel{Kind: api.Ours, To: 3, Amount: 20}))
	o.tree, _ = o.tree.Put("else", "more")
	v := o.view()
	v.Width, v.Seats = 3, nil
	s := begun(t, accounts{1: {Balance: 1000}})
	believes(t, s, v)
	stands(t, "G3: Claim with the view's Width", s, envOf(), claimOf(0, o.proof(0)), api.Result{Used: 48}, accounts{3: {Foreign: 20}})
}

package bridge_test

import (
	"math"
	"slices"
	"testing"

	"assize/api"
	"assize/bench"
	"assize/block"
	"assize/bridge"
	"assize/ledger"
	"assize/light"
	"assize/trie"
	"assize/wire"
)

func TestViews(t *testing.T) {
	a, b := two()
	want := api.View{Chain: 1, Width: 8, Epoch: 2, Seats: []api.Seat{{Who: 1, Weight: 2}, {Who: 2, Weight: 2}, {Who: 3, Weight: 1}}}
	if v, e := bridge.View(a); e != api.OK || !same(v, want) {
		t.Errorf("H1: View is %v, %d, not %v", v, e, want)
	}
	// With peers too.
	b.Peers = []api.View{want}
	if v, e := bridge.View(b); e != api.OK || !same(v, api.View{Chain: 2, Width: 7, Epoch: 3, Seats: []api.Seat{{Who: 7, Weight: 1}, {Who: 8, Weight: 3}}}) {
		t.Errorf("H1: View is %v, %d", v, e)
	}
	// Of many the heaviest have a seat.
	a.Starts = nil
	for i := range 10 {
		a.Starts = append(a.Starts, api.Start{Who: i + 1, Bond: i})
	}
	v, e := bridge.View(a)
	if e != api.OK || len(v.Seats) != api.MaxSeats || v.Seats[0] != (api.Seat{Who: 4, Weight: 3}) {
		t.Errorf("H1: View is %v, %d", v, e)
	}
}

func TestWhatCanNotBegin(t *testing.T) {
	one, other := two()
	peer := api.View{Chain: 9, Width: 8, Epoch: 1, Seats: []api.Seat{{Who: 1, Weight: 1}}}
	for what, how := range map[string]func(g *api.Genesis){
		"width 0":            func(g *api.Genesis) { g.Width = 0 },
		"width 9":            func(g *api.Genesis) { g.Width = 9 },
		"epoch 0":            func(g *api.Genesis) { g.Epoch = 0 },
		"too long an epoch":  func(g *api.Genesis) { g.Epoch = api.MaxEpoch + 1 },
		"gas below 0":        func(g *api.Genesis) { g.Gas = -1 },
		"too great a chain":  func(g *api.Genesis) { g.Chain = top + 1 },
		"chain far below 0":  func(g *api.Genesis) { g.Chain = math.MinInt },
		"nobody with a bond": func(g *api.Genesis) { g.Starts = []api.Start{{Who: 1, Balance: 5}} },
		"nothing":            func(g *api.Genesis) { *g = api.Genesis{} },
		"a bad peer":         func(g *api.Genesis) { g.Peers = []api.View{{}} },
	} {
		bad := one
		how(&bad)
		if v, e := bridge.View(bad); e != api.ErrStart || !same(v, api.View{}) {
			t.Errorf("H1: View, %s: %v, %d, not ErrStart alone", what, v, e)
		}
		refused(t, what, bad, other)
		refused(t, what+", the other way", other, bad)
		refused(t, what+", both", bad, bad)
	}
	with := one
	with.Peers = []api.View{peer}
	if _, e := bridge.View(with); e != api.OK {
		t.Errorf("H1: View of one with a peer: %d", e)
	}
	refused(t, "the first one has a peer", with, other)
	refused(t, "the second one has a peer", other, with)
	refused(t, "one has the very view as its peer", api.Genesis{Chain: 1, Width: 8, Epoch: 2, Gas: 900, Starts: one.Starts, Peers: []api.View{viewOf(t, other)}}, other)
	twin := other
	twin.Chain = one.Chain
	refused(t, "one chain", one, twin)
	refused(t, "one and the same", one, one)
}

func refused(t *testing.T, what string, a, b api.Genesis) {
	t.Helper()
	if x, e := bridge.New(a, b); e != api.ErrStart || x != nil {
		t.Errorf("H1: New, %s: %d, not ErrStart alone", what, e)
	}
}

func TestTheBeginning(t *testing.T) {
	a, b := two()
	a.Peers, b.Peers = []api.View{}, nil // none, either way
	x := begun(t, a, b)
	for k, g := range []api.Genesis{a, b} {
		peer := viewOf(t, []api.Genesis{b, a}[k])
		want := tipOf(t, g, peer)
		tip, e := x.Tip(k, 0)
		if e != api.OK || x.Height(k) != 0 || tip.Header() != want.Header() || !slices.Equal(tip.Bench(), want.Bench()) {
			t.Errorf("H1: the ledger %d begins as %v, %d", k, tip.Header(), e)
		}
		if s, _ := wire.PutView(peer); tip.Tree().Get("v") != s || s == "" {
			t.Errorf("H1: the ledger %d believes %q, not %v", k, tip.Tree().Get("v"), peer)
		}
	}
}

func TestABlock(t *testing.T) {
	a, b := two()
	x := begun(t, a, b)
	still, _ := x.Tip(1, 0)
	tip := tipOf(t, a, viewOf(t, b))
	for _, txs := range [][]api.Tx{
		nil,
		{pays(0), pays(5), pays(1)},            // the second one can't stand there
		{sends(2, 60, 25), returns(3, 60, 9)},  // the second one comes to nothing
		slices.Repeat([]api.Tx{pays(4)}, 3),    // the first one alone
		{sends(5, 60, 1), pays(6), {Kind: 99}}, // the last one is none
		{{Kind: api.Bond, From: 50, Nonce: 7, Limit: 16, Amount: 9}},
		nil,
		nil,
	} {
		// What it should be, told anew: the leader of the round 0 makes it.
		want, e := tip.Make(bench.Turn(tip.Bench(), tip.Header().Height%a.Epoch), txs, nil)
		next, results, f := tip.Take(want)
		got := grows(t, x, 0, txs...)
		if e != api.OK || f != api.OK || !same(got, results) || len(got) != len(want.Txs) {
			t.Errorf("H2: of %v came %v, not %v", txs, got, results)
		}
		tip = next
		if h := lastTip(t, x, 0).Header(); h != tip.Header() || h != sightOf(t, x, 0, h.Height).Header {
			t.Errorf("H2: the header is %v, not %v", h, tip.Header())
		}
	}
	if account(t, x, 0, 50).Bond != 9 || len(lastTip(t, x, 0).Bench()) != 4 {
		t.Error("H2: who has a bond has no seat in the next epoch")
	}
	if now, _ := x.Tip(1, 0); x.Height(1) != 0 || now.Header() != still.Header() {
		t.Error("H2: a block of one ledger has changed the other one")
	}
}

func TestWhatDoesNotFit(t *testing.T) {
	a, b := two()
	x := begun(t, a, b)
	var txs []api.Tx
	for i := range api.MaxTxs + 3 {
		txs = append(txs, pays(i))
	}
	if got := grows(t, x, 0, txs...); len(got) != api.MaxTxs || account(t, x, 0, 50).Nonce != api.MaxTxs {
		t.Errorf("H2: %d stand in the block", len(got))
	}
	// Of the gas, 700, seven may have 100; a lesser one may stand behind.
	txs = nil
	for i := range 8 {
		txs = append(txs, sends(i, 60, 1))
	}
	if got := grows(t, x, 1, txs...); len(got) != 7 || got[6].Value != 6 {
		t.Errorf("H2: of too much gas came %v", got)
	}
}

func TestThereIsNoSuchLedger(t *testing.T) {
	a, b := two()
	x := begun(t, a, b)
	grows(t, x, 0, sends(0, 60, 25))
	was := whole(x)
	for _, k := range []int{-1, 2, math.MinInt, math.MaxInt} {
		if l, e := x.Block(k, []api.Tx{pays(1)}); e != api.ErrPlace || len(l) != 0 {
			t.Errorf("H2: Block(%d): %v, %d", k, l, e)
		}
		if x.Height(k) != 0 {
			t.Errorf("H2: Height(%d) is %d", k, x.Height(k))
		}
		for _, h := range []int{0, 1} {
			nowhere(t, x, k, h)
		}
		if p, e := x.Proof(k, 0, -1); e != api.ErrHeight || !same(p, api.Proof{}) {
			t.Errorf("H2: Proof(%d, 0, -1): %v, %d", k, p, e)
		}
	}
	if whole(x) != was {
		t.Error("P1: what was refused has changed something")
	}
}

// nowhere asks for what is told of a height that is not there.
func nowhere(t *testing.T, x *bridge.Bridge, k, height int) {
	t.Helper()
	if tip, e := x.Tip(k, height); e != api.ErrHeight || tip.Header() != (api.Header{}) || len(tip.Bench()) != 0 {
		t.Errorf("H2: Tip(%d, %d): %v, %d", k, height, tip.Header(), e)
	}
	if s, e := x.Sight(k, height); e != api.ErrHeight || !same(s, api.Sight{}) {
		t.Errorf("H2: Sight(%d, %d): %v, %d", k, height, s, e)
	}
	for _, n := range []int{0, -1, top + 1} {
		if p, e := x.Proof(k, height, n); e != api.ErrHeight || !same(p, api.Proof{}) {
			t.Errorf("H2: Proof(%d, %d, %d): %v, %d", k, height, n, p, e)
		}
	}
}

func TestThereIsNoSuchHeight(t *testing.T) {
	a, b := two()
	x := begun(t, a, b)
	for k := range 2 {
		for n := range 4 {
			for _, h := range []int{-1, n + 1, n + 2, math.MinInt, math.MaxInt} {
				nowhere(t, x, k, h)
			}
			for h := range n + 1 {
				if tip, e := x.Tip(k, h); e != api.OK || tip.Header().Height != h {
					t.Errorf("H2: Tip(%d, %d): %v, %d", k, h, tip.Header(), e)
				}
				if s, e := x.Sight(k, h); (e == api.OK) != (h > 0) || s.Header.Height != h || h == 0 && (e != api.ErrHeight || !same(s, api.Sight{})) {
					t.Errorf("H2: Sight(%d, %d): %v, %d", k, h, s, e)
				}
			}
			if x.Height(k) != n {
				t.Errorf("H2: Height(%d) is %d, not %d", k, x.Height(k), n)
			}
			grows(t, x, k)
		}
	}
}

func TestSights(t *testing.T) {
	a, b := two()
	x := begun(t, a, b)
	// In the ledger 0 the bench changes with the height 3: 50 has a seat from then on, 1 has none.
	grows(t, x, 0, api.Tx{Kind: api.Bond, From: 50, Limit: 16, Amount: 5}, api.Tx{Kind: api.Leave, From: 1, Limit: 16, Amount: 2})
	for range 4 {
		grows(t, x, 0)
	}
	before := []api.Seat{{Who: 1, Weight: 2}, {Who: 2, Weight: 2}, {Who: 3, Weight: 1}}
	behind := []api.Seat{{Who: 2, Weight: 2}, {Who: 3, Weight: 1}, {Who: 50, Weight: 5}}
	for i, seats := range [][]api.Seat{before, behind, behind, behind, behind} {
		s := sightOf(t, x, 0, i+1)
		tip, _ := x.Tip(0, i+1)
		want := api.Cert{Height: i + 1, Round: 0, Stage: api.Second, Has: true, Block: light.Name(8, tip.Header()), Froms: []int{2, 3, 50}}
		if i < 2 {
			want.Froms = []int{1, 2, 3}
		}
		if s.Header != tip.Header() || !same(s.Cert, want) || !slices.Equal(s.Seats, seats) {
			t.Errorf("H2: Sight(0, %d) is %v, not of %v, %v, %v", i+1, s, tip.Header(), want, seats)
		}
	}
	// Who sees one header of each epoch believes the last one.
	v, codes := light.Follow(viewOf(t, a), []api.Sight{sightOf(t, x, 0, 2), sightOf(t, x, 0, 4), sightOf(t, x, 0, 5)})
	if v.Height != 5 || v.State != lastTip(t, x, 0).Tree().Root() || !slices.Equal(codes, []api.Errno{0, 0, 0}) {
		t.Errorf("H2: who is shown the sights believes %v, by %v", v, codes)
	}
	v, codes = light.Follow(viewOf(t, a), []api.Sight{sightOf(t, x, 0, 3)})
	if v.Height != 0 || codes[0] != api.ErrFar {
		t.Errorf("H2: who is shown a later epoch's believes %v, by %v", v, codes)
	}
}

func TestSightsOfAnyWidth(t *testing.T) {
	for w := 1; w <= 8; w++ {
		a, b := two()
		a.Width, b.Width = w, 9-w
		x := begun(t, a, b)
		for k, g := range []api.Genesis{a, b} {
			grows(t, x, k, sends(0, 60, 25))
			v, e := light.Accept(viewOf(t, g), sightOf(t, x, k, 1))
			if e != api.OK || v.State != lastTip(t, x, k).Tree().Root() {
				t.Fatalf("H2: with digests of %d bytes it is not believed: %d", g.Width, e)
			}
			s, e := trie.Check(g.Width, v.State, ledger.ParcelKey(0), proofOf(t, x, k, 1, 0))
			if p, f := wire.GetParcel(s); e != api.OK || f != api.OK || p != (api.Parcel{Kind: api.Ours, To: 60, Amount: 25}) {
				t.Errorf("H2: with digests of %d bytes the proof shows %v, %d, %d", g.Width, p, e, f)
			}
		}
	}
}

func TestProofs(t *testing.T) {
	a, b := two()
	x := begun(t, a, b)
	grows(t, x, 0, sends(0, 60, 25), sends(1, 61, 26))
	grows(t, x, 0, sends(2, 62, 27))
	for height, sent := range []int{0, 2, 3} {
		tip, _ := x.Tip(0, height)
		for n := range 5 {
			p := proofOf(t, x, 0, height, n)
			want, _ := tip.Tree().Prove("o" + wire.Five(n))
			if !same(p, want) {
				t.Errorf("H2: Proof(0, %d, %d) is %v, not %v", height, n, p, want)
			}
			s, e := trie.Check(8, tip.Tree().Root(), ledger.ParcelKey(n), p)
			written, _ := wire.PutParcel(api.Parcel{Kind: api.Ours, To: 60 + n, Amount: 25 + n})
			if n >= sent {
				written = ""
			}
			if e != api.OK || s != written {
				t.Errorf("H2: Proof(0, %d, %d) shows %q, %d, not %q", height, n, s, e, written)
			}
		}
		proofOf(t, x, 0, height, top)
		for _, n := range []int{-1, top + 1, math.MinInt, math.MaxInt} {
			if p, e := x.Proof(0, height, n); e != api.ErrPlace || !same(p, api.Proof{}) {
				t.Errorf("H2: Proof(0, %d, %d): %v, %d", height, n, p, e)
			}
		}
	}
}

func TestNothingIsKeptOrWrittenInto(t *testing.T) {
	a, b := two()
	was := [2]api.Genesis{a, b}
	was[0].Starts, was[1].Starts = slices.Clone(a.Starts), slices.Clone(b.Starts)
	x := begun(t, a, b)
	grows(t, x, 0, sends(0, 60, 25))
	txs := []api.Tx{shows(0, sightOf(t, x, 0, 1)), claims(1, proofOf(t, x, 0, 1, 0)), {Kind: api.Call, From: 50, Nonce: 2, Limit: 99, To: 9, Text: "f", Args: []int{1}}}
	told := []api.Tx{shows(0, sightOf(t, x, 0, 1)), claims(1, proofOf(t, x, 0, 1, 0)), {Kind: api.Call, From: 50, Nonce: 2, Limit: 99, To: 9, Text: "f", Args: []int{1}}}
	grows(t, x, 1, txs...)
	if !same(a, was[0]) || !same(b, was[1]) || !same(txs, told) {
		t.Error("P2: what was handed in was written into")
	}
	tells := whole(x)
	a.Starts[0], b.Starts[0] = api.Start{Who: 9, Bond: 9}, api.Start{Who: 9, Bond: 9}
	txs[0].Sights[0].Seats[0].Weight, txs[0].Sights[0].Cert.Froms[0] = 77, 77
	txs[2].Args[0] = 77
	s, p := sightOf(t, x, 0, 1), proofOf(t, x, 0, 1, 0)
	s.Seats[0].Weight, s.Cert.Froms[0], p.Turns[0].Pos = 77, 77, 77
	if whole(x) != tells {
		t.Error("P2: it has changed with what was handed in or out")
	}
	v := viewOf(t, was[0])
	v.Seats[0].Weight = 77
	if viewOf(t, was[0]).Seats[0].Weight != 2 {
		t.Error("P2: View")
	}
}

func TestNotesAreTheCallers(t *testing.T) {
	a, b := two()
	x := begun(t, a, b)
	text := "contract c { open fn f() -> num { note 7; note 8; return 1; } }"
	made := grows(t, x, 0, api.Tx{Kind: api.Make, From: 50, Limit: 200, Text: text})
	call := api.Tx{Kind: api.Call, From: 50, Limit: 200, To: made[0].Value, Text: "f"}
	for i := range 2 {
		one, other := call, call
		one.Nonce, other.Nonce = 2*i+1, 2*i+2
		l := grows(t, x, 0, one, other)
		want := []api.Note{{Who: call.To, N: 7}, {Who: call.To, N: 8}}
		if len(l) != 2 || !slices.Equal(l[0].Notes, want) || !slices.Equal(l[1].Notes, want) {
			t.Fatalf("H2: of a call came %v", l)
		}
		l[0].Notes[0].N = 99
		if l[1].Notes[0].N != 7 {
			t.Error("P2: two lists share memory")
		}
	}
}

// A tip that the bridge tells is a ledger like any other: it goes on by itself, and the bridge does not.
func TestATipGoesOnByItself(t *testing.T) {
	a, b := two()
	x := begun(t, a, b)
	tip := lastTip(t, x, 0)
	made, e := tip.Make(tip.Leader(1), []api.Tx{pays(0)}, nil)
	var next block.Tip
	if e == api.OK {
		next, _, e = tip.Take(made)
	}
	if e != api.OK || next.Header().Height != 1 || x.Height(0) != 0 {
		t.Errorf("H2: %d; the bridge is at %d", e, x.Height(0))
	}
	grows(t, x, 0)
	if h := lastTip(t, x, 0).Header(); h.Proposer != 1 || h == next.Header() {
		t.Errorf("H2: the bridge's block is %v", h)
	}
}

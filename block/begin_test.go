package block_test

import (
	"math"
	"slices"
	"testing"

	"assize/api"
	"assize/bench"
	"assize/block"
	"assize/digest"
	"assize/ledger"
	"assize/state"
	"assize/wire"
)

func starts(n int) []api.Start {
	var l []api.Start
	for i := range n {
		l = append(l, api.Start{Who: i + 1, Balance: 1, Bond: 1})
	}
	return l
}

func TestWhatCanNotBegin(t *testing.T) {
	peer := func(how func(*api.View)) func(*api.Genesis) {
		return func(g *api.Genesis) {
			v := peerView()
			how(&v)
			g.Peers = []api.View{v}
		}
	}
	for what, how := range map[string]func(*api.Genesis){
		"width 0":                  func(g *api.Genesis) { g.Width = 0 },
		"width 9":                  func(g *api.Genesis) { g.Width = 9 },
		"width below 0":            func(g *api.Genesis) { g.Width = math.MinInt },
		"epoch 0":                  func(g *api.Genesis) { g.Epoch = 0 },
		"epoch below 0":            func(g *api.Genesis) { g.Epoch = -1 },
		"too long an epoch":        func(g *api.Genesis) { g.Epoch = api.MaxEpoch + 1 },
		"gas below 0":              func(g *api.Genesis) { g.Gas = -1 },
		"too much gas":             func(g *api.Genesis) { g.Gas = top + 1 },
		"chain below 0":            func(g *api.Genesis) { g.Chain = -1 },
		"too great a chain":        func(g *api.Genesis) { g.Chain = top + 1 },
		"no starts":                func(g *api.Genesis) { g.Starts = nil },
		"too many starts":          func(g *api.Genesis) { g.Starts = starts(api.MaxStarts + 1) },
		"one twice":                func(g *api.Genesis) { g.Starts[1].Who = 1 },
		"falling":                  func(g *api.Genesis) { g.Starts[4].Who = 3 },
		"the Pot":                  func(g *api.Genesis) { g.Starts[0].Who = 0 },
		"below 0":                  func(g *api.Genesis) { g.Starts[0].Who = -1 },
		"a contract":               func(g *api.Genesis) { g.Starts[4].Who = api.Contracts },
		"balance below 0":          func(g *api.Genesis) { g.Starts[0].Balance = -1 },
		"bond below 0":             func(g *api.Genesis) { g.Starts[0].Bond = -1 },
		"bond far below 0":         func(g *api.Genesis) { g.Starts[0].Bond, g.Starts[4].Balance = -500, top },
		"too great a balance":      func(g *api.Genesis) { g.Starts = []api.Start{{Who: 1, Balance: top + 1, Bond: 1}} },
		"too great a bond":         func(g *api.Genesis) { g.Starts = []api.Start{{Who: 1, Bond: top + 1}} },
		"balances that wrap round": func(g *api.Genesis) { g.Starts[0].Balance, g.Starts[1].Balance = math.MaxInt, math.MaxInt },
		"too much together":        func(g *api.Genesis) { g.Starts = []api.Start{{Who: 1, Balance: top, Bond: 1}} },
		"too much together, of two": func(g *api.Genesis) {
			g.Starts = []api.Start{{Who: 1, Balance: top - 1, Bond: 1}, {Who: 2, Balance: 1}}
		},
		"nobody has a bond":           func(g *api.Genesis) { g.Starts = []api.Start{{Who: 1, Balance: 5}} },
		"two peers":                   func(g *api.Genesis) { a, b := peerView(), peerView(); b.Chain = 3; g.Peers = []api.View{a, b} },
		"a peer of this chain":        peer(func(v *api.View) { v.Chain = 1 }),
		"a peer without width":        peer(func(v *api.View) { v.Width = 0 }),
		"a peer of width 9":           peer(func(v *api.View) { v.Width = 9 }),
		"a peer without epoch":        peer(func(v *api.View) { v.Epoch = 0 }),
		"a peer of a height below 0":  peer(func(v *api.View) { v.Height = -1 }),
		"a peer without seats":        peer(func(v *api.View) { v.Seats = nil }),
		"a peer whose seats fall":     peer(func(v *api.View) { v.Seats = seats(2, 1, 1, 1) }),
		"a peer whose seat has none":  peer(func(v *api.View) { v.Seats = seats(2, 0) }),
		"a peer with too many seats":  peer(func(v *api.View) { v.Seats = seats(1, 1, 2, 1, 3, 1, 4, 1, 5, 1, 6, 1, 7, 1, 8, 1) }),
		"a peer with too great chain": peer(func(v *api.View) { v.Chain = top + 1 }),
	} {
		tip, e := block.Begin(but(how))
		if e != api.ErrStart || tip.Header() != (api.Header{}) || len(tip.Bench()) != 0 {
			t.Errorf("O1: %s: %d, %v", what, e, tip.Header())
		}
	}
	if _, e := block.Begin(api.Genesis{}); e != api.ErrStart {
		t.Errorf("O1: of nothing: %d", e)
	}
}

func TestWhatCanBegin(t *testing.T) {
	for what, how := range map[string]func(*api.Genesis){
		"width 1":            func(g *api.Genesis) { g.Width = 1 },
		"epoch 1":            func(g *api.Genesis) { g.Epoch = 1 },
		"the longest epoch":  func(g *api.Genesis) { g.Epoch = api.MaxEpoch },
		"no gas":             func(g *api.Genesis) { g.Gas = 0 },
		"the most gas":       func(g *api.Genesis) { g.Gas = top },
		"chain 0":            func(g *api.Genesis) { g.Chain = 0 },
		"the greatest chain": func(g *api.Genesis) { g.Chain = top },
		"the most starts":    func(g *api.Genesis) { g.Starts = starts(api.MaxStarts) },
		"the last who":       func(g *api.Genesis) { g.Starts[4].Who = api.Contracts - 1 },
		"the most money": func(g *api.Genesis) {
			g.Starts = []api.Start{{Who: 1, Balance: top - 3, Bond: 1}, {Who: 2, Balance: 2}}
		},
		"the greatest bond":        func(g *api.Genesis) { g.Starts = []api.Start{{Who: 1, Bond: top}} },
		"a start without anything": func(g *api.Genesis) { g.Starts[4].Balance = 0 },
		"a peer":                   func(g *api.Genesis) { g.Peers = []api.View{peerView()} },
	} {
		g := but(how)
		tip := begin(t, g)
		own, want := 0, 0
		for _, s := range g.Starts {
			if a := account(tip, s.Who); a != (api.Account{Balance: s.Balance, Bond: s.Bond}) {
				t.Errorf("O1: %s: the account of %v is %v", what, s, a)
			}
			want += s.Balance + s.Bond
		}
		if own, _ = state.Money(tip.Tree()); own != want {
			t.Errorf("O1: %s: the money is %d, not %d", what, own, want)
		}
		if got := tip.Tree().Get("v"); (got != "") != (len(g.Peers) > 0) {
			t.Errorf("O1: %s: at v stands %q", what, got)
		}
	}
}

func TestTheBeginning(t *testing.T) {
	g := but(func(g *api.Genesis) {
		g.Peers = []api.View{peerView()}
		g.Starts = nil
		for i := range 10 {
			g.Starts = append(g.Starts, api.Start{Who: i + 1, Balance: 7, Bond: i})
		}
		g.Starts[9].Balance, g.Starts[9].Bond = 0, 0
	})
	want := seats(3, 2, 4, 3, 5, 4, 6, 5, 7, 6, 8, 7, 9, 8)
	tip := begin(t, g)
	if !slices.Equal(tip.Bench(), want) || !slices.Equal(ledger.Bench(tip.Tree(), 0), want) {
		t.Errorf("O1: the bench is %v, not %v", tip.Bench(), want)
	}
	s, _ := wire.PutView(peerView())
	if tip.Tree().Get("v") != s {
		t.Error("O1: the peer does not stand there")
	}
	// Nine accounts, the bench, the peer.
	if n := len(tip.Tree().Items("", -1)); n != 11 {
		t.Errorf("O1: %d things stand there", n)
	}
	nothing := digest.Root(8, nil)
	h := api.Header{Chain: 1, Txs: nothing, Guilts: nothing, Results: nothing, State: tip.Tree().Root(), Bench: bench.Digest(8, want)}
	if tip.Header() != h {
		t.Errorf("O2: the header is %v, not %v", tip.Header(), h)
	}
}

func TestWidths(t *testing.T) {
	for w := 1; w <= 8; w++ {
		tip := begin(t, but(func(g *api.Genesis) { g.Width = w }))
		h := tip.Header()
		for _, d := range []api.Digest{h.Txs, h.Guilts, h.Results, h.State, h.Bench, tip.Name(h)} {
			if w < 8 && d>>(8*w) != 0 {
				t.Errorf("O2: with digests of %d bytes: %x", w, d)
			}
		}
		s, _ := wire.PutHeader(h)
		if tip.Name(h) != digest.Of(w, api.TagHeader, s) || h.Txs != digest.Root(w, nil) {
			t.Errorf("O2: with digests of %d bytes the name is %x, the root %x", w, tip.Name(h), h.Txs)
		}
	}
}

func TestLeaders(t *testing.T) {
	// Of the seats 1 to 4 that weigh 2, 2, 2, 1 the turns are led by 1 2 3 4 1 2 3.
	tip := begin(t, example())
	for height := range 5 {
		for round, want := range []int{1, 2, 3, 4, 1, 2, 3, 1, 2, 3, 4}[height%2:] {
			if got := tip.Leader(round); got != want {
				t.Errorf("O2: behind the height %d the round %d is led by %d, not %d", height, round, got, want)
			}
		}
		tip = grow(t, tip, nil, nil)
	}
	tip = begin(t, example())
	for round, want := range map[int]int{-1: 0, math.MinInt: 0, 65536: 0, math.MaxInt: 0, 65535: bench.Turn(tip.Bench(), 65535)} {
		if got := tip.Leader(round); got != want {
			t.Errorf("O2: the round %d is led by %d, not %d", round, got, want)
		}
	}
	// Beyond the last turn (B3) nobody leads.
	tip = grow(t, tip, nil, nil)
	if tip.Leader(65534) != bench.Turn(tip.Bench(), 65535) || tip.Leader(65534) == 0 || tip.Leader(65535) != 0 {
		t.Errorf("O2: the last rounds are led by %d and %d", tip.Leader(65534), tip.Leader(65535))
	}
	// A round below 0 is none, though its turn would be one.
	if tip.Leader(-1) != 0 {
		t.Errorf("O2: the round -1 is led by %d", tip.Leader(-1))
	}
}

func TestATipThatNeverBegan(t *testing.T) {
	tip, _ := block.Begin(api.Genesis{})
	if tip.Leader(0) != 0 || tip.Leader(1) != 0 || len(tip.Bench()) != 0 || tip.Tree().Get("v") != "" {
		t.Errorf("P1: %v leads", tip.Leader(0))
	}
	tip.Name(api.Header{})
	if _, e := tip.Make(1, nil, nil); e != api.ErrSeat {
		t.Errorf("P1: Make: %d", e)
	}
	if _, _, e := tip.Take(api.Block{Header: api.Header{Height: 1, Parent: tip.Name(api.Header{})}}); e != api.ErrSeat {
		t.Errorf("P1: Take: %d", e)
	}
}

func TestNothingIsKeptOfAGenesis(t *testing.T) {
	g := but(func(g *api.Genesis) { g.Peers = []api.View{peerView()} })
	tip := begin(t, g)
	was, root := tip.Header(), tip.Tree().Root()
	g.Starts[0] = api.Start{Who: 9, Bond: 9}
	g.Peers[0].Seats[0].Weight = 77
	l := tip.Bench()
	l[0].Weight = 99
	if tip.Header() != was || tip.Tree().Root() != root || tip.Bench()[0].Weight != 2 {
		t.Error("P2: the tip has changed")
	}
}

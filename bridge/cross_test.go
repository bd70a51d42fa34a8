package bridge_test

import (
	"fmt"
	"math/rand"
	"testing"

	"assize/api"
	"assize/block"
	"assize/bridge"
	"assize/ledger"
	"assize/light"
	"assize/state"
	"assize/wire"
)

// came asks for what came of a transaction.
func came(t *testing.T, what string, got []api.Result, want ...api.Result) {
	t.Helper()
	if !same(got, want) {
		t.Errorf("%s: of it came %v, not %v", what, got, want)
	}
}

// has asks for an account's Balance and Foreign.
func has(t *testing.T, what string, x *bridge.Bridge, k, who, balance, foreign int) {
	t.Helper()
	if a := account(t, x, k, who); a.Balance != balance || a.Foreign != foreign {
		t.Errorf("%s: in the ledger %d %d has %d and %d, not %d and %d", what, k, who, a.Balance, a.Foreign, balance, foreign)
	}
}

func TestThereAndBack(t *testing.T) {
	a, b := two()
	x := begun(t, a, b)
	came(t, "H2: it is sent", grows(t, x, 0, sends(0, 50, 30)), api.Result{Used: 24, Value: 0})
	has(t, "what was sent", x, 0, 50, 8970, 0)
	has(t, "what was sent", x, 0, api.Gate, 30, 0)

	s, p := sightOf(t, x, 0, 1), proofOf(t, x, 0, 1, 0)
	came(t, "H2: it is shown, and claimed", grows(t, x, 1, claims(0, p), shows(1, s), claims(2, p), claims(3, p)),
		api.Result{Code: api.ErrRoot, Used: 48}, // ahead of the header nothing is believed
		api.Result{Used: 64},
		api.Result{Used: 48, Value: 0},
		api.Result{Code: api.ErrPlace, Used: 48}) // it shows that of 1 there is none
	has(t, "what was claimed", x, 1, 50, 5000, 30)
	came(t, "H2: it is not shown twice", grows(t, x, 1, shows(4, s), claims(5, proofOf(t, x, 0, 1, 1))),
		api.Result{Code: api.ErrHeight, Used: 64},
		api.Result{Code: api.ErrPlace, Used: 48}) // of 1 there is none
	has(t, "what was claimed", x, 1, 50, 5000, 30)

	came(t, "H2: some of it goes back", grows(t, x, 1, returns(6, 61, 31), returns(7, 61, 12), sends(8, 62, 5)),
		api.Result{Code: api.ErrFunds, Used: 24}, // more than came
		api.Result{Used: 24, Value: 0},
		api.Result{Used: 24, Value: 1})
	has(t, "what goes back", x, 1, 50, 4995, 18)
	has(t, "what was sent the other way", x, 1, api.Gate, 5, 0)

	s = sightOf(t, x, 1, 3)
	came(t, "H2: it is there", grows(t, x, 0, shows(1, s), claims(2, proofOf(t, x, 1, 3, 0)), claims(3, proofOf(t, x, 1, 3, 1))),
		api.Result{Used: 64}, api.Result{Used: 48, Value: 0}, api.Result{Used: 48, Value: 1})
	has(t, "what is back", x, 0, 61, 12, 0)
	has(t, "what is back", x, 0, api.Gate, 18, 0)
	has(t, "what came the other way", x, 0, 62, 0, 5)
}

func TestParcelsAreClaimedInOrder(t *testing.T) {
	a, b := two()
	x := begun(t, a, b)
	grows(t, x, 0, sends(0, 60, 1), sends(1, 61, 2), sends(2, 62, 4))
	proof := func(n int) api.Proof { return proofOf(t, x, 0, 1, n) }
	came(t, "H2: it is shown", grows(t, x, 1, shows(0, sightOf(t, x, 0, 1))), api.Result{Used: 64})
	for i, y := range []struct {
		n    int
		code api.Errno
	}{
		{1, api.ErrForm}, {2, api.ErrForm}, {0, api.OK},
		{0, api.ErrForm}, {2, api.ErrForm}, {1, api.OK},
		{0, api.ErrForm}, {1, api.ErrForm}, {2, api.OK},
		{0, api.ErrForm}, {1, api.ErrForm}, {2, api.ErrPlace}, {3, api.ErrPlace}, // where 3 would stand is 2: that shows that there is no 3
	} {
		want := api.Result{Code: y.code, Used: 48}
		if y.code == api.OK {
			want.Value = y.n
		}
		came(t, fmt.Sprint("H2: the claim ", i), grows(t, x, 1, claims(i+1, proof(y.n))), want)
	}
	for who, amount := range map[int]int{60: 1, 61: 2, 62: 4} {
		has(t, "what was claimed", x, 1, who, 0, amount)
	}
	has(t, "what was claimed", x, 0, api.Gate, 7, 0)
}

// play is a bridge, the ledgers told anew, and what is drawn for both.
type play struct {
	*rand.Rand
	t     *testing.T
	g     [2]api.Genesis
	x     *bridge.Bridge
	tips  [2][]block.Tip
	certs [2][]api.Cert
	own   [2]int
	gates bool // money goes to the Gate otherwise too

	parcels [2][]api.Parcel // that left
	claimed [2]int          // so many came
	more    [2]int          // what the Gate has beside
	tally   map[string]int
}

func newPlay(t *testing.T, r *rand.Rand, tally map[string]int) *play {
	p := &play{Rand: r, t: t, gates: r.Intn(3) == 0, tally: tally}
	for k := range 2 {
		g := api.Genesis{Chain: 1 + k, Width: 7 + r.Intn(2), Epoch: 1 + r.Intn(3), Gas: 500 + r.Intn(900)}
		for i := range 1 + r.Intn(4) {
			g.Starts = append(g.Starts, api.Start{Who: i + 1, Balance: 100, Bond: 1 + r.Intn(4)})
		}
		g.Starts = append(g.Starts, api.Start{Who: 50, Balance: 4000}, api.Start{Who: 51, Balance: 3000})
		p.g[k] = g
	}
	p.x = begun(t, p.g[0], p.g[1])
	for k := range 2 {
		p.tips[k] = []block.Tip{tipOf(t, p.g[k], viewOf(t, p.g[1-k]))}
		p.certs[k] = []api.Cert{{}}
		p.own[k], _ = state.Money(p.last(k).Tree())
	}
	return p
}

func (p *play) last(k int) block.Tip { return p.tips[k][len(p.tips[k])-1] }

// one is a number from 0 to most, mostly a small one.
func (p *play) one(most int) int { return p.Intn(1 + p.Intn(most+1)) }

// sight is one of the other ledger, mostly the last one of the epoch that can be believed next.
func (p *play) sight(k int) api.Sight {
	v, _ := wire.GetView(p.last(k).Tree().Get("v"))
	h := min(p.x.Height(1-k), (light.Epoch(v.Height+1, v.Epoch)+1)*v.Epoch)
	if p.Intn(5) == 0 {
		h = 1 + p.Intn(p.x.Height(1-k))
	}
	s := sightOf(p.t, p.x, 1-k, h)
	switch p.Intn(12) {
	case 0:
		s.Header.State++
	case 1:
		s.Cert.Froms = s.Cert.Froms[1:]
	case 2:
		s.Seats = []api.Seat{{Who: 50, Weight: 1}}
	case 3:
		s = sightOf(p.t, p.x, k, 1)
	}
	return s
}

// proof is mostly one of the next parcel, in the state that is believed.
func (p *play) proof(k int) api.Proof {
	v, _ := wire.GetView(p.last(k).Tree().Get("v"))
	from, h, n := 1-k, v.Height, p.claimed[k]+p.one(1)
	switch p.Intn(12) {
	case 0:
		n = p.Intn(9)
	case 1:
		h = p.Intn(p.x.Height(1-k) + 1)
	case 2:
		from, h = k, p.x.Height(k)
	}
	proof := proofOf(p.t, p.x, from, h, n)
	if p.Intn(20) == 0 {
		proof.Value, _ = wire.PutParcel(api.Parcel{Kind: api.Ours, To: 50, Amount: 1 << 30})
	}
	return proof
}

func (p *play) tx(k, from, nonce int) api.Tx {
	t := api.Tx{From: from, Nonce: nonce, Price: p.Intn(2), Limit: 100, To: []int{50, 51, 60, 1}[p.Intn(4)], Amount: p.Intn(90)}
	if p.gates && p.Intn(3) == 0 {
		t.To = api.Gate
	}
	switch p.Intn(7) {
	case 0:
		t.Kind = api.Send
	case 1:
		t.Kind = api.Return
	case 2:
		t.Kind = api.Pay
	case 3:
		t.Kind, t.To = api.Bond, 0
	default:
		t.To, t.Amount = 0, 0
		if p.x.Height(0) > 0 && p.x.Height(1) > 0 && p.Intn(3) > 0 {
			t.Kind, t.Sights = api.Show, []api.Sight{p.sight(k)}
		} else {
			t.Kind, t.Proofs = api.Claim, []api.Proof{p.proof(k)}
		}
	}
	return t
}

// txs are some of two senders.
func (p *play) txs(k int) []api.Tx {
	var l []api.Tx
	nonces := [2]int{}
	for i := range nonces {
		nonces[i] = state.New(p.last(k).Tree()).Account(50 + i).Nonce
	}
	for range p.Intn(9) {
		i := p.Intn(2)
		l = append(l, p.tx(k, 50+i, nonces[i]))
		if p.Intn(8) > 0 {
			nonces[i]++ // else the next one has the same number, or none fits behind
		}
	}
	return l
}

// block makes a block in both, and holds them against each other.
func (p *play) block(k int) {
	txs := p.txs(k)
	tip := p.last(k)
	made, _ := tip.Make(tip.Leader(0), txs, nil)
	next, want, _ := tip.Take(made)
	got := grows(p.t, p.x, k, txs...)
	if !same(got, want) {
		p.t.Fatalf("H2: of %v came %v, not %v", txs, got, want)
	}
	cert := api.Cert{Height: next.Header().Height, Stage: api.Second, Has: true, Block: tip.Name(next.Header())}
	for _, s := range tip.Bench() {
		cert.Froms = append(cert.Froms, s.Who)
	}
	p.tips[k], p.certs[k] = append(p.tips[k], next), append(p.certs[k], cert)
	for i, t := range made.Txs {
		p.tally[fmt.Sprint(t.Kind, " ", int(want[i].Code))]++
		if want[i].Code == api.OK {
			p.keep(k, t, want[i].Value)
		}
	}
}

// keep keeps account of what crosses over.
func (p *play) keep(k int, t api.Tx, value int) {
	switch t.Kind {
	case api.Pay:
		if t.To == api.Gate {
			p.more[k] += t.Amount
		}
	case api.Send, api.Return:
		kind := map[int]int{api.Send: api.Ours, api.Return: api.Theirs}[t.Kind]
		if value != len(p.parcels[k]) {
			p.t.Fatalf("what comes of it: the parcel %d has the number %d", len(p.parcels[k]), value)
		}
		p.parcels[k] = append(p.parcels[k], api.Parcel{Kind: kind, To: t.To, Amount: t.Amount})
	case api.Claim:
		if value != p.claimed[k] || value >= len(p.parcels[1-k]) {
			p.t.Fatalf("what comes of it: %d is claimed, though %d are, and there are %d", value, p.claimed[k], len(p.parcels[1-k]))
		}
		if c := p.parcels[1-k][value]; c.Kind == api.Theirs && c.To == api.Gate {
			p.more[k] += c.Amount
			p.tally["back to the Gate"]++
		}
		p.claimed[k]++
	}
}

// waits is what is on its way to a ledger, of a kind.
func (p *play) waits(k, kind int) int {
	n := 0
	for _, c := range p.parcels[1-k][p.claimed[k]:] {
		if c.Kind == kind {
			n += c.Amount
		}
	}
	return n
}

// balance asks for what comes of it.
func (p *play) balance(k int) {
	own, _ := state.Money(p.last(k).Tree())
	if own != p.own[k] {
		p.t.Fatalf("G: in the ledger %d is %d, not %d", k, own, p.own[k])
	}
	_, foreign := state.Money(p.last(1 - k).Tree())
	gate := account(p.t, p.x, k, api.Gate).Balance
	onWay := p.waits(1-k, api.Ours) + p.waits(k, api.Theirs)
	if gate != foreign+onWay+p.more[k] {
		p.t.Fatalf("what comes of it: in the Gate of the ledger %d is %d; foreign is %d, on its way %d, and beside %d", k, gate, foreign, onWay, p.more[k])
	}
	if !p.gates && p.more[k] != 0 {
		p.t.Fatal("something was paid to the Gate")
	}
	p.tally["foreign"] += foreign
	p.tally["on its way"] += onWay
	p.tally["beside"] += p.more[k]
}

// alike holds what is told of a height against what should be.
func (p *play) alike(k int) {
	if p.x.Height(k) != len(p.tips[k])-1 {
		p.t.Fatalf("H2: Height(%d) is %d", k, p.x.Height(k))
	}
	h := p.Intn(len(p.tips[k]))
	tip, e := p.x.Tip(k, h)
	want := p.tips[k][h]
	if e != api.OK || tip.Header() != want.Header() {
		p.t.Fatalf("H2: Tip(%d, %d): %v, %d", k, h, tip.Header(), e)
	}
	if h > 0 {
		if s := sightOf(p.t, p.x, k, h); !same(s, api.Sight{Header: want.Header(), Cert: p.certs[k][h], Seats: want.Bench()}) {
			p.t.Fatalf("H2: Sight(%d, %d) is %v", k, h, s)
		}
	}
	n := p.Intn(5)
	proof, _ := want.Tree().Prove(ledger.ParcelKey(n))
	if got := proofOf(p.t, p.x, k, h, n); !same(got, proof) {
		p.t.Fatalf("H2: Proof(%d, %d, %d) is %v, not %v", k, h, n, got, proof)
	}
}

func TestWhatCrossesOver(t *testing.T) {
	r := rand.New(rand.NewSource(23))
	tally := map[string]int{}
	for range 120 {
		p := newPlay(t, r, tally)
		for range 60 {
			k := r.Intn(2)
			p.block(k)
			for k := range 2 {
				p.alike(k)
				p.balance(k)
			}
		}
		p.ends()
	}
	for _, what := range []string{
		"1 0", "4 0", "7 0", "8 0", "8 15", "9 0", "9 5", "9 18", "9 19", "9 20", "9 24", "10 0", "10 2", "10 5", "10 30",
		"foreign", "on its way", "beside", "back to the Gate", "claimed",
	} {
		if tally[what] < 20 {
			t.Errorf("what is drawn comes to little: of %q there are %d", what, tally[what])
		}
	}
}

// ends shows and claims, in both ledgers, all that is on its way: then all is there, once.
func (p *play) ends() {
	for k := range 2 {
		for p.claimed[k] < len(p.parcels[1-k]) {
			if !p.next(k) {
				return // the sender has too little, or the ledger can't
			}
		}
	}
	for k := range 2 {
		_, foreign := state.Money(p.last(1 - k).Tree())
		if gate := account(p.t, p.x, k, api.Gate).Balance; gate != foreign+p.more[k] {
			p.t.Fatalf("what comes of it: all is claimed, and in the Gate of the ledger %d is %d; foreign is %d, and beside %d", k, gate, foreign, p.more[k])
		}
		p.tally["claimed"]++
	}
}

// next shows the next header that can be believed, or claims the next parcel.
func (p *play) next(k int) bool {
	v, _ := wire.GetView(p.last(k).Tree().Get("v"))
	a := account(p.t, p.x, k, 50)
	t := claims(a.Nonce, proofOf(p.t, p.x, 1-k, v.Height, p.claimed[k]))
	if h := p.x.Height(1 - k); v.Height < h {
		t = shows(a.Nonce, sightOf(p.t, p.x, 1-k, min(h, (light.Epoch(v.Height+1, v.Epoch)+1)*v.Epoch)))
	}
	was := p.claimed[k]
	tip := p.last(k)
	made, _ := tip.Make(tip.Leader(0), []api.Tx{t}, nil)
	behind, _, _ := tip.Take(made)
	l := grows(p.t, p.x, k, t)
	p.tips[k] = append(p.tips[k], behind)
	p.certs[k] = append(p.certs[k], sightOf(p.t, p.x, k, p.x.Height(k)).Cert)
	if len(l) != 1 || l[0].Code != api.OK {
		return false
	}
	p.keep(k, t, l[0].Value)
	if t.Kind == api.Claim && p.claimed[k] != was+1 {
		p.t.Fatal("what comes of it: nothing was claimed")
	}
	return true
}

func TestWhatIsSentToTheGate(t *testing.T) {
	a, b := two()
	x := begun(t, a, b)
	grows(t, x, 0, sends(0, api.Gate, 40), sends(1, 60, 2))
	grows(t, x, 1, shows(0, sightOf(t, x, 0, 1)), claims(1, proofOf(t, x, 0, 1, 0)), claims(2, proofOf(t, x, 0, 1, 1)))
	has(t, "what was sent to the Gate is foreign there", x, 1, api.Gate, 0, 40)
	has(t, "what was sent behind it", x, 1, 60, 0, 2)
	has(t, "what was sent", x, 0, api.Gate, 42, 0)
}

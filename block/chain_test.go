package block_test

import (
	"math/rand"
	"slices"
	"testing"

	"assize/api"
	"assize/bench"
	"assize/block"
	"assize/digest"
	"assize/ledger"
	"assize/light"
	"assize/state"
	"assize/wire"
)

func drawnGenesis(r *rand.Rand) api.Genesis {
	g := api.Genesis{Chain: r.Intn(3), Width: 1 + r.Intn(8), Epoch: 1 + r.Intn(4), Gas: r.Intn(900)}
	for i := range 2 + r.Intn(8) {
		g.Starts = append(g.Starts, api.Start{Who: i + 1, Balance: r.Intn(900), Bond: r.Intn(4)})
	}
	g.Starts[0].Bond++
	if r.Intn(3) == 0 {
		v := peerView()
		v.Chain = 7
		g.Peers = []api.View{v}
	}
	return g
}

func drawnTx(r *rand.Rand, tip block.Tip) api.Tx {
	x := api.Tx{Kind: []int{api.Pay, api.Bond, api.Leave, api.Free, api.Make, api.Call, api.Send, api.Claim}[r.Intn(8)], From: 1 + r.Intn(5), Price: r.Intn(2), Limit: 14 + r.Intn(90)}
	x.Nonce = account(tip, x.From).Nonce + r.Intn(3)
	switch x.Kind {
	case api.Pay, api.Send:
		x.To, x.Amount = 1+r.Intn(9), r.Intn(300)
	case api.Bond, api.Leave:
		x.Amount = r.Intn(4)
	case api.Make:
		x.Text = "contract c { open fn f(a: num) -> num { note a; return a; } }"
	case api.Call:
		x.To, x.Text, x.Args = api.Contracts+1, "f", []int{r.Intn(9)}
	case api.Claim:
		x.Proofs = []api.Proof{{}}
	}
	return x
}

// chosen is what O3 lets stand in the next block.
func chosen(g api.Genesis, tip block.Tip, proposer int, txs []api.Tx, guilts []api.Guilt) ([]api.Tx, []api.Guilt) {
	env := api.Env{Height: tip.Header().Height + 1, Epoch: g.Epoch, Proposer: proposer}
	s := state.New(tip.Tree())
	var inTxs []api.Tx
	var inGuilts []api.Guilt
	for _, x := range guilts {
		if len(inGuilts) < 4 && ledger.Punish(s, env, x) == api.OK {
			inGuilts = append(inGuilts, x)
		}
	}
	gas := g.Gas
	for _, x := range txs {
		if len(inTxs) == 16 || x.Limit > gas {
			continue
		}
		if _, e := ledger.Apply(s, env, x); e == api.OK {
			inTxs = append(inTxs, x)
			gas -= x.Limit
		}
	}
	return inTxs, inGuilts
}

// spoils are the ways to make a header another one, and what Take says of it first.
func spoils(h api.Header) map[api.Header]api.Errno {
	out := map[api.Header]api.Errno{}
	for i, p := range []*api.Digest{&h.Parent, &h.Txs, &h.Guilts, &h.State, &h.Results, &h.Bench} {
		*p ^= 1
		out[h] = []api.Errno{api.ErrParent, api.ErrRoot, api.ErrRoot, api.ErrRoot, api.ErrRoot, api.ErrRoot}[i]
		*p ^= 1
	}
	h.Height++
	out[h] = api.ErrHeight
	h.Height, h.Chain = h.Height-1, h.Chain+1
	out[h] = api.ErrParent
	h.Chain, h.Proposer = h.Chain-1, 99
	out[h] = api.ErrSeat
	return out
}

func TestChainsAsToldAnew(t *testing.T) {
	r := rand.New(rand.NewSource(16))
	txsIn, guiltsIn, benches := 0, 0, 0
	for range 300 {
		g := drawnGenesis(r)
		tip := begin(t, g)
		own, _ := state.Money(tip.Tree())
		for range r.Intn(12) {
			var txs []api.Tx
			for range r.Intn(30) {
				txs = append(txs, drawnTx(r, tip))
			}
			var guilts []api.Guilt
			for range r.Intn(3) * r.Intn(4) {
				guilts = append(guilts, twice(r.Intn(12), 1+r.Intn(5)))
			}
			l := tip.Bench()
			who := l[r.Intn(len(l))].Who
			b := makes(t, tip, who, txs, guilts)
			inTxs, inGuilts := chosen(g, tip, who, txs, guilts)
			want, behind, results := toldAnew(g, tip, who, inTxs, inGuilts)
			if !sameBlock(b, want) {
				t.Fatalf("O3, O4: Make(%d, %v, %v) is %v, not %v", who, txs, guilts, b, want)
			}
			was := tip.Header()
			for h, e := range spoils(b.Header) {
				if _, _, got := tip.Take(api.Block{Header: h, Txs: b.Txs, Guilts: b.Guilts}); got != e {
					t.Fatalf("O5: Take of the header %v in the place of %v: %d, not %d", h, b.Header, got, e)
				}
			}
			next, got := takes(t, tip, b)
			if !sameResults(got, results) || next.Tree().Root() != behind.Tree().Root() || next.Header() != b.Header {
				t.Fatalf("O5: Take(%v): %v, %v, not %v", b, next.Header(), got, results)
			}
			if tip.Header() != was {
				t.Fatal("P2: a tip has changed")
			}
			if now, _ := state.Money(next.Tree()); now != own {
				t.Fatalf("the money is kept: %d, not %d", now, own)
			}
			if !slices.Equal(next.Bench(), l) {
				benches++
			}
			txsIn, guiltsIn = txsIn+len(b.Txs), guiltsIn+len(b.Guilts)
			tip = next
			nextBench(t, g, tip)
		}
	}
	if txsIn < 1000 || guiltsIn < 100 || benches < 100 {
		t.Errorf("what is drawn comes to little: %d transactions, %d guilts, %d benches", txsIn, guiltsIn, benches)
	}
}

// nextBench asks whether a tip's bench is the one that stands there for the epoch of the next height, and the one that the header tells.
func nextBench(t *testing.T, g api.Genesis, tip block.Tip) {
	t.Helper()
	h := tip.Header()
	l := ledger.Bench(tip.Tree(), h.Height/g.Epoch)
	if !slices.Equal(tip.Bench(), l) || !bench.Fits(l) || bench.Digest(g.Width, l) != h.Bench {
		t.Fatalf("O2: behind the height %d the bench is %v, not %v", h.Height, tip.Bench(), l)
	}
	// At most those of this epoch, of the one ahead, and of the one behind stand there.
	if n := len(tip.Tree().Items("b", -1)); n > 2 {
		t.Fatalf("G6: behind the height %d there are %d benches", h.Height, n)
	}
	for round := range 5 {
		if tip.Leader(round) != bench.Turn(l, h.Height%g.Epoch+round) {
			t.Fatalf("O2: the round %d is led by %d", round, tip.Leader(round))
		}
	}
	if h.Height == 0 {
		return
	}
	s, _ := wire.PutHeader(h)
	if tip.Name(h) != digest.Of(g.Width, api.TagHeader, s) || tip.Name(h) != light.Name(g.Width, h) {
		t.Fatalf("O2: Name(%v) is %x", h, tip.Name(h))
	}
}

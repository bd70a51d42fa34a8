package block_test

import (
	"math"
	"slices"
	"testing"

	"assize/api"
	"assize/block"
	"assize/state"
	"assize/wire"
)

func names(t *testing.T, tip block.Tip, want ...api.Digest) block.Tip {
	t.Helper()
	for _, d := range want {
		tip = grow(t, tip, nil, nil)
		if got := tip.Name(tip.Header()); got != d {
			t.Errorf("the document's example: the block %d is %x, not %x", tip.Header().Height, got, d)
		}
	}
	return tip
}

func TestExamplesOfTheDocument(t *testing.T) {
	tip := names(t, begin(t, example()), 0xaeefb404b013c5f1)
	tip = grow(t, tip, []api.Tx{{Kind: api.Pay, From: 50, Price: 3, Limit: 16, To: 60, Amount: 25}}, nil)
	if got := tip.Name(tip.Header()); got != 0xf952e1ee8fcd6a09 {
		t.Errorf("the document's example: the block 2 is %x", got)
	}
	tip = names(t, tip, 0xfade83d694af1ada)
	if a := account(tip, 50); a != (api.Account{Balance: 8927, Nonce: 1}) {
		t.Errorf("the document's example: the account is %v", a)
	}
	tip = grow(t, grow(t, begin(t, example()), nil, nil), nil, []api.Guilt{twice(1, 4)})
	if a, pot := account(tip, 4), account(tip, api.Pot); a != (api.Account{Balance: 500, Jailed: true}) || pot != (api.Account{Balance: 1}) {
		t.Errorf("the document's example: %v, %v", a, pot)
	}
}

func TestWhoMayMake(t *testing.T) {
	tip := begin(t, example())
	for _, who := range []int{math.MinInt, -1, 0, 5, 50, top, math.MaxInt} {
		b, e := tip.Make(who, pays(1, 0, 16), nil)
		if e != api.ErrSeat || b.Header != (api.Header{}) || len(b.Txs)+len(b.Guilts) != 0 {
			t.Errorf("O3: Make of %d: %v, %d", who, b, e)
		}
	}
	for who := 1; who <= 4; who++ {
		if b := makes(t, tip, who, nil, nil); b.Header.Proposer != who {
			t.Errorf("O3: Make of %d: %v", who, b)
		}
	}
}

func TestMakeLeavesOut(t *testing.T) {
	tip := begin(t, but(func(g *api.Genesis) { g.Gas = 100 }))
	for _, c := range []struct {
		what string
		txs  []api.Tx
		want []int
	}{
		{"all", pays(3, 0, 20), []int{0, 1, 2}},
		{"a nonce that is not next", []api.Tx{pay(1, 20), pay(0, 20), pay(0, 20), pay(1, 20)}, []int{0, 1}},
		{"just the gas that there is", []api.Tx{pay(0, 50), pay(1, 50), pay(2, 16)}, []int{0, 1}},
		{"what is above the gas that is left", []api.Tx{pay(0, 50), pay(1, 51), pay(1, 40), pay(2, 16), pay(2, 10)}, []int{0, 1}},
		{"what takes all", []api.Tx{pay(0, 101), pay(0, 100), pay(1, 16)}, []int{0}},
		{"numbers that are none", []api.Tx{pay(0, -1), pay(0, math.MinInt), pay(0, math.MaxInt), pay(-1, 20), pay(0, 20)}, []int{0}},
	} {
		b := makes(t, tip, 2, c.txs, nil)
		if !slices.Equal(nonces(b.Txs), c.want) {
			t.Errorf("O3: %s: %v stand in the block, not %v", c.what, nonces(b.Txs), c.want)
		}
		if _, l := takes(t, tip, b); len(l) != len(c.want) {
			t.Errorf("O5: %s: %d results", c.what, len(l))
		}
	}
	// A transaction that says an error stands there all the same.
	b := makes(t, tip, 2, []api.Tx{{Kind: api.Free, From: 50, Limit: 20}}, nil)
	if _, l := takes(t, tip, b); len(l) != 1 || l[0].Code != api.ErrFunds {
		t.Errorf("O3: what says an error: %v", l)
	}
}

func TestMakeEndsWithTheMost(t *testing.T) {
	tip := begin(t, but(func(g *api.Genesis) {
		g.Gas, g.Epoch = top, 1000
		g.Starts = append(starts(7), api.Start{Who: 50, Balance: 9000})
	}))
	b := makes(t, tip, 1, pays(20, 0, 16), nil)
	if len(b.Txs) != api.MaxTxs || b.Txs[15].Nonce != 15 {
		t.Errorf("O3: %d transactions", len(b.Txs))
	}
	// What is left out does not count.
	l := append([]api.Tx{pay(9, 16), pay(8, 16)}, pays(16, 0, 16)...)
	if b = makes(t, tip, 1, l, nil); len(b.Txs) != api.MaxTxs {
		t.Errorf("O3: %d transactions", len(b.Txs))
	}
	var guilts []api.Guilt
	for _, who := range []int{9, 1, 1, 2, 3, 4, 5, 6} {
		guilts = append(guilts, twice(1, who))
	}
	b = makes(t, tip, 1, nil, guilts)
	if !slices.Equal(guilty(b.Guilts), []int{1, 2, 3, 4}) {
		t.Errorf("O3: the guilts are of %v", guilty(b.Guilts))
	}
	next, _ := takes(t, tip, b)
	if account(next, 4).Bond != 0 || account(next, 5).Bond != 1 || account(next, api.Pot).Balance != 4 {
		t.Errorf("O3: %v, %v, %v", account(next, 4), account(next, 5), account(next, api.Pot))
	}
	// A block of too many is none.
	b.Guilts = append(b.Guilts, twice(1, 5))
	if _, _, e := tip.Take(b); e != api.ErrLimit {
		t.Errorf("O5: too many guilts: %d", e)
	}
	b = makes(t, tip, 1, pays(16, 0, 16), nil)
	b.Txs = append(b.Txs, pay(16, 16))
	if _, _, e := tip.Take(b); e != api.ErrLimit {
		t.Errorf("O5: too many transactions: %d", e)
	}
}

func TestGuiltsComeFirst(t *testing.T) {
	// 4 is punished ahead of its own transactions: it can't bond any more.
	tip := begin(t, example())
	bond := api.Tx{Kind: api.Bond, From: 4, Limit: 16, Amount: 5}
	next, l := takes(t, tip, makes(t, tip, 1, []api.Tx{bond}, []api.Guilt{twice(1, 4)}))
	if l[0].Code != api.ErrGuilt || account(next, 4) != (api.Account{Balance: 500, Nonce: 1, Jailed: true}) {
		t.Errorf("O3: %v, %v", l, account(next, 4))
	}
	// And Turn comes behind the transactions: at the end of the epoch what they bond counts.
	tip = grow(t, tip, nil, nil)
	if !slices.Equal(tip.Bench(), seats(1, 2, 2, 2, 3, 2, 4, 1)) {
		t.Errorf("O2: the bench is %v", tip.Bench())
	}
	b := makes(t, tip, 1, []api.Tx{{Kind: api.Bond, From: 50, Limit: 16, Amount: 9}, bond}, []api.Guilt{twice(2, 3)})
	next, _ = takes(t, tip, b)
	if want := seats(1, 2, 2, 2, 4, 6, 50, 9); !slices.Equal(next.Bench(), want) {
		t.Errorf("O3: the bench of the next epoch is %v, not %v", next.Bench(), want)
	}
	// Who has lost its seat may neither make nor propose.
	if _, e := next.Make(3, nil, nil); e != api.ErrSeat {
		t.Errorf("O3: Make: %d", e)
	}
	if _, e := next.Make(50, nil, nil); e != api.OK {
		t.Errorf("O3: Make: %d", e)
	}
}

// full is a tip of the height 1, and the next block, which has something of everything.
func full(t *testing.T) (block.Tip, api.Block) {
	tip := grow(t, begin(t, but(func(g *api.Genesis) { g.Gas = 100 })), nil, nil)
	txs := pays(2, 0, 20)
	txs[1].Price = 3 // so that it tells who proposed the block
	return tip, makes(t, tip, 2, txs, []api.Guilt{twice(1, 3)})
}

func TestTakeRefuses(t *testing.T) {
	tip, _ := full(t)
	for _, c := range []struct {
		what string
		how  func(*api.Block)
		want api.Errno
	}{
		{"a number that is none", func(b *api.Block) { b.Header.Proposer = -1 }, api.ErrLimit},
		{"a transaction that may not be", func(b *api.Block) { b.Txs[0].To = 0 }, api.ErrForm},
		{"a guilt that may not be", func(b *api.Block) { b.Guilts[0].A.From = 0 }, api.ErrForm},
		{"another chain", func(b *api.Block) { b.Header.Chain = 2 }, api.ErrParent},
		{"the height of the tip", func(b *api.Block) { b.Header.Height = 1 }, api.ErrHeight},
		{"the height behind the next", func(b *api.Block) { b.Header.Height = 3 }, api.ErrHeight},
		{"another parent", func(b *api.Block) { b.Header.Parent++ }, api.ErrParent},
		{"a proposer without a seat", func(b *api.Block) { b.Header.Proposer = 50 }, api.ErrSeat},
		{"another proposer", func(b *api.Block) { b.Header.Proposer = 1 }, api.ErrRoot},
		{"a guilt that proves nothing", func(b *api.Block) { b.Guilts[0].B = b.Guilts[0].A }, api.ErrGuilt},
		{"a guilt twice", func(b *api.Block) { b.Guilts = append(b.Guilts, b.Guilts[0]) }, api.ErrGuilt},
		{"a guilt of the height behind", func(b *api.Block) { b.Guilts[0] = twice(3, 3) }, api.ErrGuilt},
		{"too much gas", func(b *api.Block) { b.Txs[1].Limit = 81 }, api.ErrGas},
		{"just the gas", func(b *api.Block) { b.Txs[1].Limit = 80 }, api.ErrRoot},
		{"too little gas", func(b *api.Block) { b.Txs[1].Limit = 15 }, api.ErrGas},
		{"another nonce", func(b *api.Block) { b.Txs[1].Nonce = 2 }, api.ErrNonce},
		{"another order", func(b *api.Block) { b.Txs[0], b.Txs[1] = b.Txs[1], b.Txs[0] }, api.ErrNonce},
		{"a contract's", func(b *api.Block) { b.Txs[1].From = api.Contracts }, api.ErrKind},
		{"more than there is", func(b *api.Block) { b.Txs[1].Amount = 9000 }, api.ErrFunds},
		{"one less", func(b *api.Block) { b.Txs = b.Txs[:1] }, api.ErrRoot},
		{"no guilt", func(b *api.Block) { b.Guilts = nil }, api.ErrRoot},
		{"another amount", func(b *api.Block) { b.Txs[1].Amount = 2 }, api.ErrRoot},
		{"other votes", func(b *api.Block) { b.Guilts[0].B.Block = 3 }, api.ErrRoot},
		{"another digest of the transactions", func(b *api.Block) { b.Header.Txs++ }, api.ErrRoot},
		{"another digest of the guilts", func(b *api.Block) { b.Header.Guilts++ }, api.ErrRoot},
		{"another digest of the state", func(b *api.Block) { b.Header.State++ }, api.ErrRoot},
		{"another digest of the results", func(b *api.Block) { b.Header.Results++ }, api.ErrRoot},
		{"another digest of the bench", func(b *api.Block) { b.Header.Bench++ }, api.ErrRoot},
	} {
		_, b := full(t)
		c.how(&b)
		next, l, e := tip.Take(b)
		if e != c.want || len(l) != 0 || next.Header() != (api.Header{}) || next.Tree().Get(state.AccountKey(1)) != "" {
			t.Errorf("O5: %s: %v, %v, %d, not %d alone", c.what, next.Header(), l, e, c.want)
		}
	}
}

func TestTakeRefusesInOrder(t *testing.T) {
	tip, good := full(t)
	b := good
	b.Header = api.Header{Chain: 2, Height: 7, Parent: good.Header.Parent + 1, Proposer: 50}
	b.Guilts = []api.Guilt{twice(9, 3)}
	b.Txs = []api.Tx{pay(5, 101)}
	b.Txs[0].To = 0
	wants := func(what string, want api.Errno) {
		t.Helper()
		if _, _, e := tip.Take(b); e != want {
			t.Errorf("O5: %s: %d, not %d", what, e, want)
		}
	}
	wants("the form", api.ErrForm)
	b.Txs[0].To = 60
	wants("the chain", api.ErrParent)
	b.Header.Chain = 1
	wants("the height", api.ErrHeight)
	b.Header.Height = 2
	wants("the parent", api.ErrParent)
	b.Header.Parent = good.Header.Parent
	wants("the proposer", api.ErrSeat)
	b.Header.Proposer = 2
	wants("the guilt", api.ErrGuilt)
	b.Guilts = good.Guilts
	wants("the gas", api.ErrGas)
	b.Txs[0].Limit = 100
	wants("the nonce", api.ErrNonce)
	b.Txs[0].Nonce = 0
	wants("the digests", api.ErrRoot)
	b.Txs = good.Txs
	wants("the digests", api.ErrRoot)
	b.Header = good.Header
	wants("none", api.OK)
}

func TestGasOfABlock(t *testing.T) {
	// Take asks for the gas ahead of what Apply says, and each takes its Limit, whatever it uses.
	tip := begin(t, but(func(g *api.Genesis) { g.Gas = 0 }))
	b := makes(t, tip, 1, pays(3, 0, 16), nil)
	if len(b.Txs) != 0 {
		t.Errorf("O3: without gas %v stand in the block", b.Txs)
	}
	b.Txs = []api.Tx{pay(7, 16)}
	if _, _, e := tip.Take(b); e != api.ErrGas {
		t.Errorf("O5: without gas: %d", e)
	}
	// What is left is whole again in the next block.
	tip = begin(t, but(func(g *api.Genesis) { g.Gas = 30 }))
	for nonce := range 3 {
		b := makes(t, tip, 1, pays(2, nonce, 16), nil)
		if !slices.Equal(nonces(b.Txs), []int{nonce}) {
			t.Errorf("O3: %v stand in the block", nonces(b.Txs))
		}
		tip, _ = takes(t, tip, b)
	}
}

func TestNothingIsShared(t *testing.T) {
	tip, _ := full(t)
	was, root := tip.Header(), tip.Tree().Root()
	call := api.Tx{Kind: api.Call, From: 50, Limit: 20, To: 3, Text: "f", Args: []int{4}}
	show := api.Tx{Kind: api.Show, From: 50, Nonce: 1, Limit: 64, Sights: []api.Sight{{Cert: api.Cert{Stage: api.First, Froms: []int{1}}, Seats: seats(1, 1)}}}
	proof := api.Tx{Kind: api.Claim, From: 1, Limit: 48, Proofs: []api.Proof{{Leaf: true, Key: "k", Value: "v", Turns: []api.Turn{{Pos: 1}}}}}
	tip = begin(t, but(func(g *api.Genesis) { g.Gas = 1000 }))
	txs, guilts := []api.Tx{call, show, proof}, []api.Guilt{twice(1, 3)}
	b := makes(t, tip, 1, txs, guilts)
	written, _ := wire.PutBlock(b)
	if len(b.Txs) != 3 || !sameBlock(b, api.Block{Header: b.Header, Txs: txs, Guilts: guilts}) {
		t.Fatalf("O3: %v", b)
	}
	call.Args[0] = 9
	show.Sights[0].Cert.Froms[0], show.Sights[0].Seats[0].Weight = 9, 9
	proof.Proofs[0].Turns[0].Pos = 9
	show.Sights[0].Header.Height, proof.Proofs[0].Key = 9, "x"
	txs[0], guilts[0] = pay(9, 9), twice(9, 9)
	if now, _ := wire.PutBlock(b); now != written {
		t.Error("P2: what Make was given is kept in what it made")
	}
	next, _ := takes(t, tip, b)
	behind := next.Tree().Root()
	b.Txs[0].Args[0], b.Txs[1].Sights[0].Seats[0].Weight, b.Guilts[0].A.Block = 1, 1, 7
	if next.Tree().Root() != behind || next.Header() != b.Header || tip.Header().Height != 0 {
		t.Error("P2: a tip has changed")
	}
	if old, _ := full(t); old.Header() != was || old.Tree().Root() != root {
		t.Error("P2: what a call answers hangs on something else")
	}
}

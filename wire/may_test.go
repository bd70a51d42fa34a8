package wire_test

import (
	"testing"

	"assize/api"
	"assize/wire"
)

// W5: whether a thing may be; Put tells, and Get of its bytes.
func mustBe(t *testing.T, h thing, x any, may bool) {
	t.Helper()
	if may {
		mustPut(t, h, x, bytesOf(x), api.OK)
		mustGet(t, h, bytesOf(x), x, api.OK)
		return
	}
	mustPut(t, h, x, "", api.ErrForm)
	mustGet(t, h, bytesOf(x), nil, api.ErrForm)
}

func TestVotesThatMayBe(t *testing.T) {
	for _, x := range []struct {
		vote api.Vote
		may  bool
	}{
		{api.Vote{Stage: api.Moves, Has: true, Block: 1, From: 1}, true},
		{api.Vote{Stage: api.First, Has: true, Block: 0, From: 1}, true},
		{api.Vote{Stage: api.Second, Has: true, Block: 1, From: api.MaxNumber}, true},
		{api.Vote{Stage: api.First, From: 1}, true},
		{api.Vote{Stage: api.Second, From: 1}, true},
		{api.Vote{Stage: api.Moves, From: 1}, false},
		{api.Vote{Stage: 3, Has: true, Block: 1, From: 1}, false},
		{api.Vote{Stage: 3, From: 1}, false},
		{api.Vote{Stage: api.MaxNumber, Has: true, From: 1}, false},
		{api.Vote{Stage: api.First, Has: true, Block: 1}, false},
		{api.Vote{Stage: api.First, Block: 1, From: 1}, false},
		{api.Vote{Stage: api.Second, Block: 1 << 63, From: 1}, false},
		{api.Vote{}, false},
	} {
		mustBe(t, named(t, "Vote"), x.vote, x.may)
		mustBe(t, named(t, "Guilt"), api.Guilt{A: x.vote, B: fullVote()}, x.may)
		mustBe(t, named(t, "Guilt"), api.Guilt{A: fullVote(), B: x.vote}, x.may)
		mustBe(t, named(t, "Block"), api.Block{Guilts: []api.Guilt{fullGuilt(), {A: fullVote(), B: x.vote}}}, x.may)
		mustBe(t, named(t, "Message"), api.Message{From: 1, Votes: []api.Vote{fullVote(), x.vote}}, x.may)
		mustBe(t, named(t, "Voted"), api.Record{Kind: api.Voted, Vote: x.vote}, x.may)
	}
}

func TestCertsThatMayBe(t *testing.T) {
	for _, x := range []struct {
		cert api.Cert
		may  bool
	}{
		{api.Cert{Stage: api.First, Has: true, Block: 1, Froms: []int{1}}, true},
		{api.Cert{Stage: api.Second, Has: true, Block: 0, Froms: []int{1, 2, 3, 4, 5, 6, api.MaxNumber}}, true},
		{api.Cert{Stage: api.First}, true},
		{api.Cert{Stage: api.Second, Froms: []int{7}}, true},
		{api.Cert{Stage: api.Moves, Has: true, Block: 1, Froms: []int{1}}, false},
		{api.Cert{Stage: 3, Has: true, Block: 1, Froms: []int{1}}, false},
		{api.Cert{Stage: api.First, Block: 1}, false},
		{api.Cert{Stage: api.First, Has: true, Froms: []int{0}}, false},
		{api.Cert{Stage: api.First, Has: true, Froms: []int{0, 1}}, false},
		{api.Cert{Stage: api.First, Has: true, Froms: []int{1, 1}}, false},
		{api.Cert{Stage: api.First, Has: true, Froms: []int{1, 3, 2}}, false},
		{api.Cert{}, false},
	} {
		mustBe(t, named(t, "Cert"), x.cert, x.may)
		show := fullTx(api.Show)
		show.Sights[0].Cert = x.cert
		mustBe(t, named(t, "Show"), show, x.may)
		known := api.Known{Cert: x.cert}
		mustBe(t, named(t, "Closed"), api.Record{Kind: api.Closed, Known: known}, x.may)
		mustBe(t, named(t, "Locked"), api.Record{Kind: api.Locked, Known: known}, x.may)
		motion := api.Motion{From: 1, Basis: []api.Cert{x.cert}}
		mustBe(t, named(t, "Moved"), api.Record{Kind: api.Moved, Motion: motion}, x.may)
		mustBe(t, named(t, "Message"), api.Message{From: 1, Motions: []api.Motion{{From: 1}, motion}}, x.may)
		mustBe(t, named(t, "Message"), api.Message{From: 1, Knowns: []api.Known{fullKnown(), known}}, x.may)
	}
}

func TestBenchesThatMayBe(t *testing.T) {
	for _, x := range []struct {
		seats []api.Seat
		may   bool
	}{
		{nil, true},
		{[]api.Seat{{Who: 1, Weight: 1}}, true},
		{[]api.Seat{{Who: 2, Weight: 9}, {Who: api.MaxNumber, Weight: 1}}, true},
		{[]api.Seat{{Who: 0, Weight: 1}}, false},
		{[]api.Seat{{Who: 1, Weight: 0}}, false},
		{[]api.Seat{{Who: 1, Weight: 1}, {Who: 2, Weight: 0}}, false},
		{[]api.Seat{{Who: 1, Weight: 1}, {Who: 1, Weight: 1}}, false},
		{[]api.Seat{{Who: 1, Weight: 1}, {Who: 3, Weight: 1}, {Who: 2, Weight: 1}}, false},
	} {
		mustBe(t, named(t, "Bench"), x.seats, x.may)
		mustBe(t, named(t, "View"), api.View{Width: 1, Epoch: 1, Seats: x.seats}, x.may)
		show := fullTx(api.Show)
		show.Sights[0].Seats = x.seats
		mustBe(t, named(t, "Show"), show, x.may)
	}
}

func TestProofsThatMayBe(t *testing.T) {
	for _, x := range []struct {
		proof api.Proof
		may   bool
	}{
		{api.Proof{}, true},
		{api.Proof{Leaf: true, Value: "v"}, true},
		{api.Proof{Leaf: true, Key: "k", Value: "v", Turns: []api.Turn{{Pos: 0}, {Pos: 1}, {Pos: 287, Side: 1}}}, true},
		{api.Proof{Leaf: true, Key: "k"}, false},
		{api.Proof{Leaf: true}, false},
		{api.Proof{Key: "k"}, false},
		{api.Proof{Value: "v"}, false},
		{api.Proof{Turns: []api.Turn{{Pos: 1}}}, false},
		{api.Proof{Leaf: true, Value: "v", Turns: []api.Turn{{Pos: 1}, {Pos: 1}}}, false},
		{api.Proof{Leaf: true, Value: "v", Turns: []api.Turn{{Pos: 2}, {Pos: 1}}}, false},
		{api.Proof{Leaf: true, Value: "v", Turns: []api.Turn{{Pos: 2}, {Pos: 4}, {Pos: 3}}}, false},
	} {
		mustBe(t, named(t, "Proof"), x.proof, x.may)
		claim := fullTx(api.Claim)
		claim.Proofs[0] = x.proof
		mustBe(t, named(t, "Claim"), claim, x.may)
	}
}

// W5: which kinds of transactions have which fields.
func TestFieldsOfTransactions(t *testing.T) {
	h := named(t, "Pay")
	has := func(kind int, kinds ...int) bool {
		for _, k := range kinds {
			if k == kind {
				return true
			}
		}
		return false
	}
	for kind := api.Pay; kind <= api.Claim; kind++ {
		with := func(change func(*api.Tx)) api.Tx {
			x := fullTx(kind)
			change(&x)
			return x
		}
		mustBe(t, h, fullTx(kind), true)
		mustBe(t, h, with(func(x *api.Tx) { x.From = 0 }), false)
		mustBe(t, h, with(func(x *api.Tx) { x.From = 1 }), true)
		mustBe(t, h, with(func(x *api.Tx) { x.Nonce, x.Price, x.Limit = 0, 0, 0 }), true)
		to := has(kind, api.Pay, api.Call, api.Send, api.Return)
		mustBe(t, h, with(func(x *api.Tx) { x.To = 1 }), to)
		mustBe(t, h, with(func(x *api.Tx) { x.To = 0 }), !to)
		amount := has(kind, api.Pay, api.Make, api.Call, api.Bond, api.Leave, api.Send, api.Return)
		mustBe(t, h, with(func(x *api.Tx) { x.Amount = 1 }), amount)
		mustBe(t, h, with(func(x *api.Tx) { x.Amount = 0 }), true)
		mustBe(t, h, with(func(x *api.Tx) { x.Text = "t" }), has(kind, api.Make, api.Call))
		mustBe(t, h, with(func(x *api.Tx) { x.Text = "" }), true)
		mustBe(t, h, with(func(x *api.Tx) { x.Args = []int{0} }), kind == api.Call)
		mustBe(t, h, with(func(x *api.Tx) { x.Args = nil }), true)
		mustBe(t, h, with(func(x *api.Tx) { x.Sights = []api.Sight{fullSight()} }), kind == api.Show)
		mustBe(t, h, with(func(x *api.Tx) { x.Sights = nil }), kind != api.Show)
		mustBe(t, h, with(func(x *api.Tx) { x.Proofs = []api.Proof{fullProof()} }), kind == api.Claim)
		mustBe(t, h, with(func(x *api.Tx) { x.Proofs = nil }), kind != api.Claim)
	}
	for _, kind := range []int{0, api.Claim + 1, api.MaxNumber} {
		mustBe(t, h, api.Tx{Kind: kind, From: 1}, false)
		mustBe(t, h, api.Tx{Kind: kind, From: 1, To: 1}, false)
	}
}

// W5: what has a transaction that may not be may not be.
func TestTransactionsWithin(t *testing.T) {
	for _, x := range []struct {
		tx  api.Tx
		may bool
	}{{fullTx(api.Bond), true}, {api.Tx{Kind: api.Bond}, false}} {
		block := api.Block{Txs: []api.Tx{fullTx(api.Pay), x.tx}}
		mustBe(t, named(t, "Block"), block, x.may)
		mustBe(t, named(t, "Message"), api.Message{From: 1, Txs: block.Txs}, x.may)
		mustBe(t, named(t, "Message"), api.Message{From: 1, Motions: []api.Motion{{From: 1, Block: block}}}, x.may)
		mustBe(t, named(t, "Message"), api.Message{From: 1, Knowns: []api.Known{{Cert: fullCert(), Block: block}}}, x.may)
		mustBe(t, named(t, "Moved"), api.Record{Kind: api.Moved, Motion: api.Motion{From: 1, Block: block}}, x.may)
		mustBe(t, named(t, "Closed"), api.Record{Kind: api.Closed, Known: api.Known{Cert: fullCert(), Block: block}}, x.may)
	}
}

func TestSendersThatMayBe(t *testing.T) {
	mustBe(t, named(t, "Message"), api.Message{From: 1}, true)
	mustBe(t, named(t, "Message"), api.Message{From: 0, To: 1, Height: 1}, false)
	for from := range 2 {
		motion := api.Motion{From: from}
		mustBe(t, named(t, "Moved"), api.Record{Kind: api.Moved, Motion: motion}, from > 0)
		mustBe(t, named(t, "Message"), api.Message{From: 1, Motions: []api.Motion{motion}}, from > 0)
	}
}

func TestParcelsAndViewsThatMayBe(t *testing.T) {
	parcel := named(t, "Parcel")
	mustBe(t, parcel, api.Parcel{Kind: api.Ours, To: 1}, true)
	mustBe(t, parcel, api.Parcel{Kind: api.Theirs, To: api.MaxNumber, Amount: api.MaxNumber}, true)
	mustBe(t, parcel, api.Parcel{Kind: 0, To: 1, Amount: 1}, false)
	mustBe(t, parcel, api.Parcel{Kind: 3, To: 1, Amount: 1}, false)
	mustBe(t, parcel, api.Parcel{Kind: api.Ours, Amount: 1}, false)
	for width := range 12 {
		mustBe(t, named(t, "View"), api.View{Width: width, Epoch: 1}, width >= 1 && width <= 8)
	}
	mustBe(t, named(t, "View"), api.View{Width: 1, Epoch: 0}, false)
	mustBe(t, named(t, "View"), api.View{Chain: api.MaxNumber, Width: 8, Epoch: api.MaxNumber, Height: api.MaxNumber}, true)
}

// W5: accounts, headers and results may be anything.
func TestAnythingMayBe(t *testing.T) {
	m := api.MaxNumber
	mustBe(t, named(t, "Account"), api.Account{Balance: m, Foreign: m, Nonce: m, Bond: m, Leaving: m, FreeAt: m}, true)
	mustBe(t, named(t, "Account"), api.Account{Jailed: true}, true)
	mustBe(t, named(t, "Header"), api.Header{Chain: m, Height: m, Proposer: m}, true)
	mustBe(t, named(t, "Header"), api.Header{Parent: 1 << 63}, true)
	mustBe(t, named(t, "Result"), api.Result{Code: 999, Used: m, Value: m, Notes: []api.Note{{}, {Who: m, N: m}, {}}}, true)
	mustBe(t, thingOf("Block", fullBlock, wire.PutBlock, wire.GetBlock), api.Block{}, true)
}

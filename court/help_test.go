package court_test

import (
	"slices"
	"strconv"
	"strings"
	"testing"

	"assize/api"
	"assize/block"
	"assize/court"
	"assize/wire"
)

const top = api.MaxNumber

// four is a ledger with the seats 1 to 4, which weigh the same: the rounds of its first height are led by 1, 2, 3, 4, 1 and so on.
func four() api.Genesis {
	g := api.Genesis{Chain: 1, Width: 8, Epoch: 2, Gas: 900}
	for who := range 4 {
		g.Starts = append(g.Starts, api.Start{Who: who + 1, Balance: 500, Bond: 1})
	}
	g.Starts = append(g.Starts, api.Start{Who: 50, Balance: 9000})
	return g
}

func begin(t *testing.T, g api.Genesis) block.Tip {
	t.Helper()
	tip, e := block.Begin(g)
	if e != api.OK {
		t.Fatalf("Begin(%v): %d", g, e)
	}
	return tip
}

// pay is a payment of 50 to 60.
func pay(amount int) api.Tx {
	return api.Tx{Kind: api.Pay, From: 50, Limit: 16, To: 60, Amount: amount}
}

// letters: what a block of that letter pays; one of E is empty.
const letters = "EABC"

// made is a block by its label: what it pays, and who proposes it, as in A1.
func made(t *testing.T, tip block.Tip, label string) api.Block {
	t.Helper()
	b, e := tip.Make(int(label[1]-'0'), paid(label[:1]), nil)
	if e != api.OK {
		t.Fatalf("the block %s: %d", label, e)
	}
	return b
}

func paid(letter string) []api.Tx {
	if n := strings.Index(letters, letter); n > 0 {
		return []api.Tx{pay(n)}
	}
	return nil
}

// labels are those of all blocks that made makes, by their Names.
func labels(t *testing.T, tip block.Tip) map[api.Digest]string {
	t.Helper()
	out := map[api.Digest]string{}
	for _, s := range tip.Bench() {
		for _, letter := range letters {
			label := string(letter) + strconv.Itoa(s.Who)
			out[tip.Name(made(t, tip, label).Header)] = label
		}
	}
	return out
}

func sameRecord(a, b api.Record) bool {
	x, e := wire.PutRecord(a)
	y, f := wire.PutRecord(b)
	return e == api.OK && f == api.OK && x == y
}

func sameKnowns(a, b []api.Known) bool {
	return slices.EqualFunc(a, b, func(x, y api.Known) bool {
		return sameRecord(api.Record{Kind: api.Locked, Known: x}, api.Record{Kind: api.Locked, Known: y})
	})
}

// sameMessage: a message as a court says it has no From, so it could not be written.
func sameMessage(a, b api.Message) bool {
	if a.From != 0 || b.From != 0 {
		return false
	}
	a.From, b.From = 1, 1
	x, e := wire.PutMessage(a)
	y, f := wire.PutMessage(b)
	return e == api.OK && f == api.OK && x == y
}

// ballot is a vote at height 1: for the block, or, of the label -, for none.
func ballot(t *testing.T, tip block.Tip, round, stage int, label string, from int) api.Vote {
	v := api.Vote{Height: 1, Round: round, Stage: stage, From: from}
	if label != "-" {
		v.Has, v.Block = true, tip.Name(made(t, tip, label).Header)
	}
	return v
}

// certOf is a cert of those whose digits stand in froms.
func certOf(t *testing.T, tip block.Tip, round, stage int, label, froms string) api.Cert {
	v := ballot(t, tip, round, stage, label, 1)
	x := api.Cert{Height: 1, Round: round, Stage: stage, Has: v.Has, Block: v.Block}
	for _, c := range froms {
		x.Froms = append(x.Froms, int(c-'0'))
	}
	return x
}

func knownOf(t *testing.T, tip block.Tip, round, stage int, label, froms string) api.Known {
	return api.Known{Cert: certOf(t, tip, round, stage, label, froms), Block: made(t, tip, label)}
}

// moves is the motion of a round's leader, with a basis or without one.
func moves(t *testing.T, tip block.Tip, round int, label string, basis ...api.Cert) api.Motion {
	return api.Motion{Round: round, From: tip.Leader(round), Block: made(t, tip, label), Basis: basis}
}

// errorText tells an error, if it is one.
func errorText(e api.Errno) string {
	if e == api.OK {
		return ""
	}
	return "error " + strconv.Itoa(int(e))
}

// newCourt is a court of the ledger four.
func newCourt(t *testing.T, self int) (block.Tip, *court.Court) {
	t.Helper()
	tip := begin(t, four())
	return tip, court.New(tip, self)
}

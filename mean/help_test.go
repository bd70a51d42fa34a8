package mean_test

import (
	"fmt"
	"strings"
	"testing"

	"assize/api"
	"assize/machine"
	"assize/mean"
	"assize/state"
	"assize/trie"
)

// Those whom the tests know: the contract that is called, and others.
const (
	giver  = 3
	me     = api.Contracts + 1
	other  = api.Contracts + 2
	nobody = 77
)

// begun: a tree with the giver, who has 100, and contracts that have 50 each, and these texts (which may have tabs).
func begun(texts ...string) trie.Tree {
	s := state.New(trie.New(8))
	s.SetAccount(giver, api.Account{Balance: 100})
	for i, text := range texts {
		s.SetText(me+i, strings.ReplaceAll(text, "\t", " "))
		s.SetAccount(me+i, api.Account{Balance: 50})
	}
	return s.Tree()
}

// shown: an outcome in words: "done 4 used 23 note 1:2", "failed used 4", "out used 20".
func shown(o api.Outcome) string {
	s := fmt.Sprint([]string{"nothing", "done", "failed", "out"}[o.Kind])
	if o.Kind == api.Done || o.Value != 0 {
		s += fmt.Sprint(" ", o.Value)
	}
	s += fmt.Sprint(" used ", o.Used)
	for _, n := range o.Notes {
		s += fmt.Sprintf(" note %d:%d", n.Who-api.Contracts, n.N)
	}
	return s
}

// called: the outcome, and the tree behind it; machine.Call has the same (N4), and what was not done has changed nothing.
func called(t *testing.T, before trie.Tree, j api.Job) (api.Outcome, trie.Tree) {
	t.Helper()
	s, kept := state.New(before), fmt.Sprint(j)
	o := mean.Call(s, j)
	if fmt.Sprint(j) != kept {
		t.Errorf("P2: Call changes %s", kept)
	}
	if s.Keep(0) != api.ErrMark {
		t.Errorf("N1: %s, and a mark is left", shown(o))
	}
	after := s.Tree()
	if o.Kind != api.Done && (after.Root() != before.Root() || o.Value != 0 || len(o.Notes) > 0) {
		t.Errorf("N1: %s, and something has changed, or is told", shown(o))
	}
	s = state.New(before)
	m := machine.Call(s, j)
	if fmt.Sprint(o) != fmt.Sprint(m) {
		t.Errorf("N4: %v: %s, but to the machine %s", j, shown(o), shown(m))
	}
	if after.Root() != s.Tree().Root() {
		t.Errorf("N4: %v: %s, and the machine leaves another state", j, shown(o))
	}
	return o, after
}

func must(t *testing.T, why string, o api.Outcome, want string) {
	t.Helper()
	if got := shown(o); got != want {
		t.Errorf("%s: %s, not %s", why, got, want)
	}
}

// allGas: what is done, or fails, with some gas: with less it is out, with more the same.
func allGas(t *testing.T, why string, before trie.Tree, j api.Job, want string) {
	t.Helper()
	o, _ := called(t, before, j)
	must(t, why, o, want)
	if o.Kind == api.Out {
		return
	}
	for gas := range o.Used + 2 {
		j.Gas = gas
		with := want
		if gas < o.Used {
			with = fmt.Sprint("out used ", gas)
		}
		got, _ := called(t, before, j)
		must(t, fmt.Sprint(why, ", with gas ", gas), got, with)
	}
}

func job(args ...int) api.Job {
	return api.Job{From: giver, To: me, Text: "f", Args: args, Gas: 1000, Height: 9}
}

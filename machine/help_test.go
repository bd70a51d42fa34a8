package machine_test

import (
	"fmt"
	"slices"
	"strconv"
	"strings"
	"testing"

	"assize/api"
	"assize/code"
	"assize/machine"
	"assize/state"
	"assize/trie"
)

var opNames = strings.Fields("none Push Pop Load Store Plus Minus Times Over Rest Same Under Above Flip Jump Zero Enter Back Read Write Seek Stow Me From Paid High Purse Hand Say Must Reach")

// instrs: of words: "Push 3, Back"; a second number is B.
func instrs(s string) []api.Instr {
	var l []api.Instr
	for _, one := range strings.Split(s, ",") {
		w := strings.Fields(one)
		i := api.Instr{Op: slices.Index(opNames, w[0])}
		if i.Op < 1 {
			panic("no instruction: " + one)
		}
		if len(w) > 1 {
			i.A, _ = strconv.Atoi(w[1])
		}
		if len(w) > 2 {
			i.B, _ = strconv.Atoi(w[2])
		}
		l = append(l, i)
	}
	return l
}

// Those whom the tests know: the contract that is called, and others.
const (
	giver  = 3
	me     = api.Contracts + 1
	other  = api.Contracts + 2
	third  = api.Contracts + 3
	nobody = 77
)

// begun: a state with the giver, who has 100, and contracts that have 50 each, and these texts (which may have tabs).
func begun(texts ...string) *state.State {
	s := state.New(trie.New(8))
	s.SetAccount(giver, api.Account{Balance: 100})
	for i, text := range texts {
		s.SetText(me+i, strings.ReplaceAll(text, "\t", " "))
		s.SetAccount(me+i, api.Account{Balance: 50})
	}
	return s
}

func root(s *state.State) api.Digest { return s.Tree().Root() }

// shown: an outcome in words: "done 4 used 23 notes 1:2", "failed used 4", "out used 20".
func shown(o api.Outcome) string {
	s := fmt.Sprint([]string{"nothing", "done", "failed", "out"}[o.Kind])
	if o.Kind == api.Done || o.Value != 0 {
		s += fmt.Sprint(" ", o.Value)
	}
	s += fmt.Sprint(" used ", o.Used)
	for _, n := range o.Notes {
		s += fmt.Sprintf(" note %d:%d", n.Who-api.Contracts, n.N)
	}
	return s
}

// one: code of one piece, f, that is open.
func one(params, locals int, body string) api.Code {
	return api.Code{Pieces: []api.Piece{{Name: "f", Open: true, Params: params, Locals: locals, Body: instrs(body)}}, Names: []string{"g", "f", "no"}}
}

func job(args ...int) api.Job {
	return api.Job{From: giver, To: me, Text: "f", Args: args, Gas: 1000, Height: 9}
}

// runs: the outcome of a code and a job; the state is changed just where it is done.
func runs(t *testing.T, s *state.State, c api.Code, j api.Job) api.Outcome {
	t.Helper()
	if e := code.Check(c); e != api.OK {
		t.Fatalf("a test's code that may not run: %v: %d", c, e)
	}
	before, kept := root(s), fmt.Sprint(c, j)
	o, e := machine.Run(s, c, j)
	if e != api.OK {
		t.Errorf("M7: Run of %v: %d", c, e)
	}
	mustKeep(t, s, before, o)
	if fmt.Sprint(c, j) != kept {
		t.Errorf("P2: Run changes %s", kept)
	}
	return o
}

// calls: the same of a call.
func calls(t *testing.T, s *state.State, j api.Job) api.Outcome {
	t.Helper()
	before, kept := root(s), fmt.Sprint(j)
	o := machine.Call(s, j)
	mustKeep(t, s, before, o)
	if fmt.Sprint(j) != kept {
		t.Errorf("P2: Call changes %s", kept)
	}
	return o
}

// mustKeep: what was not done has changed nothing, and left no mark; and has no value and no notes.
func mustKeep(t *testing.T, s *state.State, before api.Digest, o api.Outcome) {
	t.Helper()
	if o.Kind != api.Done && (root(s) != before || o.Value != 0 || len(o.Notes) > 0) {
		t.Errorf("M2, M6: %s, and something has changed, or is told", shown(o))
	}
	if s.Keep(0) != api.ErrMark {
		t.Errorf("M2: %s, and a mark is left", shown(o))
	}
}

func must(t *testing.T, why string, o api.Outcome, want string) {
	t.Helper()
	if got := shown(o); got != want {
		t.Errorf("%s: %s, not %s", why, got, want)
	}
}

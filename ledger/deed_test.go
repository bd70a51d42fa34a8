package ledger_test

import (
	"strings"
	"testing"

	"assize/api"
	"assize/ledger"
	"assize/wire"
)

func TestPay(t *testing.T) {
	x := api.Tx{Kind: api.Pay, From: 1, Limit: 20, To: 2, Amount: 30}
	s := begun(t, accounts{1: {Balance: 100, Bond: 4}})
	stands(t, "G3: Pay", s, envOf(), x, api.Result{Used: 16}, accounts{1: {Balance: 70, Nonce: 1, Bond: 4}, 2: {Balance: 30}})

	self := x
	self.To = 1
	s = begun(t, accounts{1: {Balance: 100}})
	stands(t, "G3: Pay to oneself", s, envOf(), self, api.Result{Used: 16}, accounts{1: {Balance: 100, Nonce: 1}})

	far := x
	far.To = top
	s = begun(t, accounts{1: {Balance: 100}})
	stands(t, "G3: Pay to a contract that is none yet", s, envOf(), far, api.Result{Used: 16}, accounts{1: {Balance: 70, Nonce: 1}, top: {Balance: 30}})

	s = begun(t, accounts{1: {Balance: 100}, 2: {Balance: top - 30}})
	stands(t, "G3: Pay up to the most", s, envOf(), x, api.Result{Used: 16}, accounts{2: {Balance: top}})
	s = begun(t, accounts{1: {Balance: 100}, 2: {Balance: top - 29}})
	fails(t, "G3: Pay beyond the most", s, x, api.Result{Code: api.ErrLimit, Used: 16})
}

const adder = "contract c { slot n: num; open fn add(a: num) -> num { need a < 10; n = n + a; note n; return n; } }"

func TestMake(t *testing.T) {
	base := 32 + len(adder)
	x := api.Tx{Kind: api.Make, From: 1, Price: 1, Limit: 300, Amount: 7, Text: adder}
	s := begun(t, accounts{1: {Balance: 2000}})
	first, second := api.Contracts+1, api.Contracts+2
	stands(t, "G3: Make", s, envOf(), x, api.Result{Used: base, Value: first}, accounts{1: {Balance: 1993 - base, Nonce: 1}, first: {Balance: 7}})
	x.Nonce, x.Amount = 1, 0
	stands(t, "G3: Make once more", s, envOf(), x, api.Result{Used: base, Value: second}, accounts{first: {Balance: 7}, second: {}})
	if s.Count("made") != 2 || s.Text(first) != adder || s.Text(second) != adder || s.Text(api.Contracts) != "" {
		t.Errorf("G3: %d are made, of the texts %q, %q", s.Count("made"), s.Text(first), s.Text(second))
	}

	for text, want := range map[string]api.Errno{
		"":                 api.ErrShort,
		"contract c {":     api.ErrShort,
		"contract c { } }": api.ErrLong,
		"contract C { }":   api.ErrWord,
		"contract c { slot n: num; slot n: num; }":      api.ErrDouble,
		"contract c { fn f() -> num { return x; } }":    api.ErrName,
		"contract c { fn f() -> num { return true; } }": api.ErrKind,
		"contract c { fn f() -> num { need true; } }":   api.ErrEnd,
	} {
		s := begun(t, accounts{1: {Balance: 2000}})
		bad := api.Tx{Kind: api.Make, From: 1, Price: 1, Limit: 300, Amount: 7, Text: text}
		fails(t, "G3: Make of a text that can't be", s, bad, api.Result{Code: want, Used: 32 + len(text)})
	}
	long := api.Tx{Kind: api.Make, From: 1, Limit: 9000, Text: strings.Repeat(" ", api.MaxText+1)}
	refuses(t, "G2: Make of too long a text", s, long, api.ErrLimit)
}

func TestMakeAtTheEnd(t *testing.T) {
	x := api.Tx{Kind: api.Make, From: 1, Limit: 300, Amount: 7, Text: adder}
	used := 32 + len(adder)
	s := begun(t, accounts{1: {Balance: 50}})
	s.SetCount("made", top-api.Contracts-1)
	stands(t, "G3: the last contract", s, envOf(), x, api.Result{Used: used, Value: top}, accounts{top: {Balance: 7}})
	x.Nonce = 1
	fails(t, "G3: no number is left", s, x, api.Result{Code: api.ErrLimit, Used: used})
	s.SetCount("made", top)
	x.Nonce = 2
	fails(t, "G3: the count is at its end", s, x, api.Result{Code: api.ErrLimit, Used: used})
	x.Nonce, x.Text = 3, "contract c { } }"
	fails(t, "G3: the text is looked at first", s, x, api.Result{Code: api.ErrLong, Used: 32 + len(x.Text)})

	// Somebody may have paid to a contract ahead of its being made.
	s = begun(t, accounts{1: {Balance: 50}, api.Contracts + 1: {Balance: top - 6}})
	x.Nonce, x.Text = 0, adder
	fails(t, "G3: the contract has no room", s, x, api.Result{Code: api.ErrLimit, Used: used})
}

func TestCall(t *testing.T) {
	who := api.Contracts + 1
	x := api.Tx{Kind: api.Call, From: 1, Price: 2, Limit: 100, To: who, Amount: 5, Text: "add", Args: []int{4}}
	s := begun(t, accounts{1: {Balance: 1000}})
	s.SetText(who, adder)
	note := api.Note{Who: who, N: 4}
	// 23 as the document's example has it, and the note: a slot (4) and 4.
	stands(t, "G3: Call", s, envOf(), x, api.Result{Used: 16 + 31, Value: 4, Notes: []api.Note{note}}, accounts{1: {Balance: 995 - 94, Nonce: 1}, who: {Balance: 5}, 9: {Balance: 94}})
	if s.Word(who, 0, 0) != 4 {
		t.Errorf("G3: the slot is %d", s.Word(who, 0, 0))
	}
	x.Nonce, x.Args = 1, []int{10}
	fails(t, "G3: Call of what fails", s, x, api.Result{Code: api.ErrFailed, Used: 16 + 4})
	x.Nonce, x.Args, x.Limit = 2, []int{4}, 16+30
	fails(t, "G3: Call with too little gas", s, x, api.Result{Code: api.ErrOut, Used: 46})
	x.Nonce, x.Limit = 3, 16
	fails(t, "G3: Call without gas", s, x, api.Result{Code: api.ErrOut, Used: 16})
	x.Nonce, x.Text, x.Limit = 4, "sub", 100
	fails(t, "G3: Call of no function", s, x, api.Result{Code: api.ErrFailed, Used: 16})
	x.Nonce, x.To, x.Amount = 5, 77, 8
	stands(t, "G3: Call of no contract", s, envOf(), x, api.Result{Used: 16}, accounts{77: {Balance: 8}})
}

func TestCallKnowsItsBlock(t *testing.T) {
	who := api.Contracts + 1
	s := begun(t, accounts{1: {Balance: 1000}})
	s.SetText(who, "contract c { open fn f() -> num { note height; note num(caller); note value; note num(self); return height; } }")
	x := api.Tx{Kind: api.Call, From: 1, Limit: 100, To: who, Amount: 6, Text: "f"}
	notes := []api.Note{{Who: who, N: 10}, {Who: who, N: 1}, {Who: who, N: 6}, {Who: who, N: who}}
	stands(t, "G3: Call", s, envOf(), x, api.Result{Used: 16 + 4*5 + 2, Value: 10, Notes: notes}, nil)
	most := api.Tx{Kind: api.Call, From: 1, Nonce: 1, Limit: api.MaxGas, To: who, Text: "f"}
	notes[2].N = 0
	stands(t, "G3: Call with the most gas", s, envOf(), most, api.Result{Used: 16 + 4*5 + 2, Value: 10, Notes: notes}, nil)
}

func TestBond(t *testing.T) {
	x := api.Tx{Kind: api.Bond, From: 1, Price: 1, Limit: 16, Amount: 20}
	s := begun(t, accounts{1: {Balance: 100, Bond: 3, Leaving: 4, FreeAt: 5, Foreign: 6}})
	stands(t, "G3: Bond", s, envOf(), x, api.Result{Used: 16}, accounts{1: {Balance: 64, Bond: 23, Leaving: 4, FreeAt: 5, Foreign: 6, Nonce: 1}})
	x.Nonce, x.Amount = 1, 0
	stands(t, "G3: Bond of nothing", s, envOf(), x, api.Result{Used: 16}, accounts{1: {Balance: 48, Bond: 23, Leaving: 4, FreeAt: 5, Foreign: 6, Nonce: 2}})

	x.Nonce, x.Amount = 0, 20
	s = begun(t, accounts{1: {Balance: 100, Bond: top - 19, Jailed: true}})
	fails(t, "G3: Bond of one who lied", s, x, api.Result{Code: api.ErrGuilt, Used: 16})
	s = begun(t, accounts{1: {Balance: 100, Bond: top - 19}})
	fails(t, "G3: Bond beyond the most", s, x, api.Result{Code: api.ErrLimit, Used: 16})
	s = begun(t, accounts{1: {Balance: 100, Bond: top - 20}})
	stands(t, "G3: Bond up to the most", s, envOf(), x, api.Result{Used: 16}, accounts{1: {Balance: 64, Bond: top, Nonce: 1}})
}

func TestLeave(t *testing.T) {
	x := api.Tx{Kind: api.Leave, From: 1, Price: 1, Limit: 16, Amount: 20}
	was := api.Account{Balance: 16, Bond: 20}
	s := begun(t, accounts{1: was})
	stands(t, "G3: Leave", s, envOf(), x, api.Result{Used: 16}, accounts{1: {Leaving: 20, FreeAt: 18, Nonce: 1}})

	s = begun(t, accounts{1: {Balance: 116, Bond: 21, Leaving: 1, FreeAt: 1}})
	fails(t, "G3: Leave, when something leaves", s, x, api.Result{Code: api.ErrBusy, Used: 16})
	x.Nonce, x.Amount = 1, 22
	fails(t, "G3: that is told first", s, x, api.Result{Code: api.ErrBusy, Used: 16})
	s = begun(t, accounts{1: {Balance: 116, Bond: 21}})
	x.Nonce = 0
	fails(t, "G3: Leave of more than there is", s, x, api.Result{Code: api.ErrFunds, Used: 16})
	x.Nonce, x.Amount = 1, 0
	fails(t, "G3: Leave of nothing", s, x, api.Result{Code: api.ErrFunds, Used: 16})
	x.Nonce, x.Amount = 2, 20
	stands(t, "G3: Leave of less than there is", s, envOf(), x, api.Result{Used: 16}, accounts{1: {Balance: 68, Bond: 1, Leaving: 20, FreeAt: 18, Nonce: 3}})

	x.Nonce = 0
	for _, c := range []struct {
		height int
		want   api.Result
	}{{top - 8, api.Result{Used: 16}}, {top - 7, api.Result{Code: api.ErrLimit, Used: 16}}} {
		s = begun(t, accounts{1: was})
		env := api.Env{Height: c.height, Epoch: 4, Proposer: 9}
		behind := api.Account{Bond: 20, Nonce: 1}
		if c.want.Code == api.OK {
			behind = api.Account{Leaving: 20, FreeAt: top, Nonce: 1}
		}
		stands(t, "G3: FreeAt at its end", s, env, x, c.want, accounts{1: behind})
	}
}

func TestFree(t *testing.T) {
	x := api.Tx{Kind: api.Free, From: 1, Price: 1, Limit: 16}
	s := begun(t, accounts{1: {Balance: 100, Bond: 3, FreeAt: 11}})
	fails(t, "G3: Free, when nothing leaves", s, x, api.Result{Code: api.ErrFunds, Used: 16})
	s = begun(t, accounts{1: {Balance: 100, Bond: 3, Leaving: 20, FreeAt: 11}})
	fails(t, "G3: Free too early", s, x, api.Result{Code: api.ErrBusy, Used: 16})
	for _, at := range []int{0, 9, 10} {
		s = begun(t, accounts{1: {Balance: 100, Bond: 3, Leaving: 20, FreeAt: at, Jailed: true}})
		stands(t, "G3: Free", s, envOf(), x, api.Result{Used: 16}, accounts{1: {Balance: 104, Bond: 3, Nonce: 1, Jailed: true}})
	}
	s = begun(t, accounts{1: {Balance: top - 19, Leaving: 20, FreeAt: 10}})
	fails(t, "G3: Free beyond the most", s, x, api.Result{Code: api.ErrLimit, Used: 16})
	s = begun(t, accounts{1: {Balance: top - 20, Leaving: 20, FreeAt: 10}})
	stands(t, "G3: Free up to the most", s, envOf(), x, api.Result{Used: 16}, accounts{1: {Balance: top - 16, Nonce: 1}})
}

func TestNothingIsKeptOfATx(t *testing.T) {
	who := api.Contracts + 1
	s := begun(t, accounts{1: {Balance: 1000}})
	s.SetText(who, adder)
	x := api.Tx{Kind: api.Call, From: 1, Limit: 100, To: who, Text: "add", Args: []int{4}}
	before, _ := wire.PutTx(x)
	a, _ := ledger.Apply(s, envOf(), x)
	if after, _ := wire.PutTx(x); after != before {
		t.Error("P2: Apply has written into what it was given")
	}
	x.Nonce, x.Args[0] = 1, 5
	b, _ := ledger.Apply(s, envOf(), x)
	b.Notes[0].N = 99
	if a.Notes[0].N != 4 || s.Word(who, 0, 0) != 9 {
		t.Errorf("P2: what Apply answered has changed: %v", a)
	}
}

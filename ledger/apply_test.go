package ledger_test

import (
	"math"
	"strings"
	"testing"

	"assize/api"
	"assize/ledger"
	"assize/state"
)

func TestBase(t *testing.T) {
	for kind, want := range map[int]int{
		api.Pay: 16, api.Make: 32, api.Call: 16, api.Bond: 16, api.Leave: 16, api.Free: 16,
		api.Send: 24, api.Return: 24, api.Show: 64, api.Claim: 48,
		0: 16, 11: 16, -1: 16, math.MaxInt: 16, math.MinInt: 16,
	} {
		if got := ledger.Base(api.Tx{Kind: kind, Limit: 999, Amount: 7}); got != want {
			t.Errorf("G1: Base of the kind %d is %d, not %d", kind, got, want)
		}
		if kind == api.Make {
			want += 2048
		}
		if got := ledger.Base(api.Tx{Kind: kind, Text: strings.Repeat("x", 2048)}); got != want {
			t.Errorf("G1: Base of the kind %d with a text is %d, not %d", kind, got, want)
		}
	}
}

func TestRefusedInOrder(t *testing.T) {
	s := begun(t, accounts{1: {Balance: 500, Nonce: 3}, api.Contracts: {Balance: 500, Nonce: 3}})
	x := api.Tx{Kind: api.Pay, From: api.Contracts, Nonce: 9, Price: -1, Limit: 15, Amount: top}
	refuses(t, "G2: a number", s, x, api.ErrLimit)
	x.Price = top
	refuses(t, "G2: no To", s, x, api.ErrForm)
	x.To = 2
	refuses(t, "G2: a contract's", s, x, api.ErrKind)
	x.From = 1
	refuses(t, "G2: another nonce", s, x, api.ErrNonce)
	x.Nonce = 3
	refuses(t, "G2: less than Base", s, x, api.ErrGas)
	x.Limit = 16
	refuses(t, "G2: too dear", s, x, api.ErrFunds)
	x.Price, x.Amount = 2, 500-2*16
	stands(t, "G2: all of it", s, envOf(), x, api.Result{Used: 16}, accounts{1: {Nonce: 4}, 2: {Balance: 468}, 9: {Balance: 32}})
}

func TestRefusedAtEdges(t *testing.T) {
	pay := api.Tx{Kind: api.Pay, From: 1, Limit: 16, To: 2}
	with := func(how func(*api.Tx)) api.Tx {
		x := pay
		how(&x)
		return x
	}
	s := begun(t, accounts{1: {Nonce: 3}, 2: {Nonce: top}, 3: {Nonce: top - 1}})
	for what, x := range map[string]api.Tx{
		"a nonce below":  with(func(x *api.Tx) { x.Nonce = 2 }),
		"a nonce above":  with(func(x *api.Tx) { x.Nonce = 4 }),
		"the last nonce": with(func(x *api.Tx) { x.From, x.Nonce = 2, top }),
	} {
		refuses(t, "G2: "+what, s, x, api.ErrNonce)
	}
	last := with(func(x *api.Tx) { x.From, x.Nonce = 3, top-1 })
	stands(t, "G2: the last nonce but one", s, envOf(), last, api.Result{Used: 16}, accounts{3: {Nonce: top}})

	s = begun(t, accounts{})
	refuses(t, "G2: of nobody", s, with(func(x *api.Tx) { x.From = 0 }), api.ErrForm)
	refuses(t, "G2: of the first contract", s, with(func(x *api.Tx) { x.From = api.Contracts }), api.ErrKind)
	refuses(t, "G2: of the last contract", s, with(func(x *api.Tx) { x.From = top }), api.ErrKind)
	refuses(t, "G2: too much gas", s, with(func(x *api.Tx) { x.Limit = api.MaxGas + 1 }), api.ErrGas)
	refuses(t, "G2: a kind that is none", s, with(func(x *api.Tx) { x.Kind = 11 }), api.ErrForm)
	most := with(func(x *api.Tx) { x.From, x.Limit = api.Contracts-1, api.MaxGas })
	stands(t, "G2: one without an account", s, envOf(), most, api.Result{Used: 16}, accounts{api.Contracts - 1: {Nonce: 1}})
}

// oneOf is a transaction of each kind, with an amount where it may have one, and just so much gas as it costs at least.
func oneOf(kind int) api.Tx {
	x := api.Tx{Kind: kind, From: 1}
	switch kind {
	case api.Make:
		x.Text = "contract c { }"
	case api.Pay, api.Call, api.Send, api.Return:
		x.To = 2
	case api.Show:
		x.Sights = []api.Sight{{Cert: api.Cert{Stage: api.Second}}}
	case api.Claim:
		x.Proofs = []api.Proof{{}}
	}
	if kind != api.Free && kind != api.Show && kind != api.Claim {
		x.Amount = 5
	}
	x.Limit = ledger.Base(x)
	return x
}

func TestFundsOfEachKind(t *testing.T) {
	for kind := api.Pay; kind <= api.Claim; kind++ {
		x := oneOf(kind)
		x.Price = 3
		need := 3 * x.Limit
		switch kind {
		case api.Pay, api.Make, api.Call, api.Bond, api.Send:
			need += x.Amount
		}
		s := begun(t, accounts{1: {Balance: need - 1, Bond: 50, Foreign: 50}})
		refuses(t, "G2: one too little", s, x, api.ErrFunds)
		s = begun(t, accounts{1: {Balance: need, Bond: 50, Foreign: 50}})
		if r, e := ledger.Apply(s, envOf(), x); e != api.OK || r.Used != ledger.Base(x) {
			t.Errorf("G2: just enough: %v: %v, %d", x, r, e)
		}
		if a := s.Account(1); a.Nonce != 1 || s.Account(9).Balance != 3*x.Limit {
			t.Errorf("G2: %v: the nonce is %d, the gas that was paid %d", x, a.Nonce, s.Account(9).Balance)
		}
		x.Nonce, x.Price, x.Limit = s.Account(1).Nonce, 0, x.Limit-1
		refuses(t, "G2: less than Base", s, x, api.ErrGas)
	}
}

func TestGasGoesToTheProposer(t *testing.T) {
	x := api.Tx{Kind: api.Pay, From: 1, Price: 3, Limit: 100, To: 2, Amount: 5}
	s := begun(t, accounts{1: {Balance: 400}})
	stands(t, "G2: what was used is paid", s, envOf(), x, api.Result{Used: 16}, accounts{1: {Balance: 347, Nonce: 1}, 2: {Balance: 5}, 9: {Balance: 48}})

	s = begun(t, accounts{1: {Balance: 400}, 9: {Balance: top - 47}})
	stands(t, "G2: the proposer has no room", s, envOf(), x, api.Result{Used: 16}, accounts{1: {Balance: 395, Nonce: 1}, 9: {Balance: top - 47}})
	s = begun(t, accounts{1: {Balance: 400}, 9: {Balance: top - 48}})
	stands(t, "G2: the proposer has just room", s, envOf(), x, api.Result{Used: 16}, accounts{1: {Balance: 347, Nonce: 1}, 9: {Balance: top}})

	own := envOf()
	own.Proposer = 1
	s = begun(t, accounts{1: {Balance: 400}})
	stands(t, "G2: the proposer's own", s, own, x, api.Result{Used: 16}, accounts{1: {Balance: 395, Nonce: 1}})

	// What was paid may be the proposer's all, and goes back to it as gas.
	own.Proposer = 2
	s = begun(t, accounts{1: {Balance: 400}, 2: {Balance: top - 5}})
	stands(t, "G2: who is paid proposes", s, own, x, api.Result{Used: 16}, accounts{1: {Balance: 395, Nonce: 1}, 2: {Balance: top}})

	// With an error the gas is paid, too.
	s = begun(t, accounts{1: {Balance: 400}, 2: {Balance: top - 4}})
	fails(t, "G2: who is paid has no room", s, x, api.Result{Code: api.ErrLimit, Used: 16})
}

func TestGasThatIsSpent(t *testing.T) {
	// A sender below Contracts that has a text may be emptied by its own contract: then no gas can be paid.
	s := begun(t, accounts{1: {Balance: 100}})
	s.SetText(1, "contract c { open fn f() -> num { pay who(7), 90; return 3; } }")
	x := api.Tx{Kind: api.Call, From: 1, Price: 1, Limit: 100, To: 1, Text: "f"}
	r, e := ledger.Apply(s, envOf(), x)
	if e != api.OK || r.Code != api.OK || r.Value != 3 || r.Used <= 16 {
		t.Errorf("G2: %v, %d", r, e)
	}
	if s.Account(1) != (api.Account{Balance: 10, Nonce: 1}) || s.Account(7).Balance != 90 || s.Account(9).Balance != 0 {
		t.Errorf("G2: gas that can't be paid: %v, %v, %v", s.Account(1), s.Account(7), s.Account(9))
	}
}

func TestMarksOfOthersStay(t *testing.T) {
	s := begun(t, accounts{1: {Balance: 100}})
	was := root(s)
	for i := range 3 {
		if mark := s.Mark(); mark != i {
			t.Fatalf("G2: Mark is %d, not %d", mark, i)
		}
		x := api.Tx{Kind: []int{api.Pay, api.Bond, api.Leave}[i], From: 1, Nonce: i, Limit: 16}
		if i == 0 {
			x.To, x.Amount = 2, 5
		}
		if _, e := ledger.Apply(s, envOf(), x); e != api.OK {
			t.Fatalf("G2: Apply(%v): %d", x, e)
		}
	}
	if e := s.Undo(0); e != api.OK || root(s) != was {
		t.Errorf("G2: behind Undo (%d) the state is another", e)
	}
}

func TestNumbersThatMayNotBe(t *testing.T) {
	odd := []int{math.MinInt, -1, 0, 1, top, top + 1, math.MaxInt}
	for _, n := range odd {
		for _, env := range []api.Env{{Height: n, Epoch: 4, Proposer: 9}, {Height: 8, Epoch: n, Proposer: 9}, {Height: 8, Epoch: 4, Proposer: n}, {Height: n, Epoch: n, Proposer: n}} {
			for kind := range 13 {
				s := begun(t, accounts{1: {Balance: 1000, Bond: 50, Foreign: 50}})
				x := oneOf(kind)
				x.Price = 1
				ledger.Apply(s, env, x)
				if own, _ := state.Money(s.Tree()); own != 1050 {
					t.Errorf("G2: %v %v: the money is %d", env, x, own)
				}
				for _, y := range []api.Tx{{Kind: kind, From: n}, {Kind: n, From: 1}, {Kind: kind, From: 1, Nonce: n, Price: n, Limit: n, To: n, Amount: n, Args: []int{n}}} {
					ledger.Apply(s, env, y)
				}
				v := api.Vote{Height: n, Round: n, Stage: api.First, From: n}
				ledger.Punish(s, env, api.Guilt{A: v, B: v})
			}
			s := begun(t, accounts{1: {Bond: 50}})
			if e := ledger.Turn(s, env); e != api.OK {
				t.Errorf("G6: Turn at %v: %d", env, e)
			}
		}
		ledger.ParcelKey(n)
	}
}

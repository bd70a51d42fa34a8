package ledger_test

import (
	"math/rand"
	"testing"

	"assize/api"
	"assize/compile"
	"assize/ledger"
	"assize/light"
	"assize/mean"
	"assize/script"
	"assize/state"
	"assize/trie"
	"assize/wire"
)

// Here the chapter is told anew: of trees alone, which never change, so that what comes to nothing answers the tree that it was given.

// with is a tree in which an account has become another; ErrLimit, if it may not be.
func with(t trie.Tree, who int, a api.Account) (trie.Tree, api.Errno) {
	s, e := wire.PutAccount(a)
	if e != api.OK {
		return t, e
	}
	if a == (api.Account{}) {
		s = ""
	}
	t, _ = t.Put("a"+wire.Five(who), s)
	return t, api.OK
}

func of(t trie.Tree, who int) api.Account {
	a, _ := wire.GetAccount(t.Get("a" + wire.Five(who)))
	return a
}

func moved(t trie.Tree, from, to, amount int) (trie.Tree, api.Errno) {
	a := of(t, from)
	if a.Balance < amount {
		return t, api.ErrFunds
	}
	a.Balance -= amount
	less, _ := with(t, from, a)
	b := of(less, to)
	b.Balance += amount
	more, e := with(less, to, b)
	if e != api.OK {
		return t, e
	}
	return more, api.OK
}

func countOf(t trie.Tree, name string) int {
	n, _ := wire.GetNumber(t.Get("n" + name))
	return n
}

func counted(t trie.Tree, name string) (trie.Tree, api.Errno) {
	s, e := wire.PutNumber(countOf(t, name) + 1)
	if e != api.OK {
		return t, e
	}
	t, _ = t.Put("n"+name, s)
	return t, api.OK
}

// came: what a transaction comes to, if it stands there: the tree behind it, and its result.
type came struct {
	tree trie.Tree
	res  api.Result
}

func toldPlain(t trie.Tree, env api.Env, x api.Tx) (trie.Tree, api.Errno) {
	a := of(t, x.From)
	switch {
	case x.Kind == api.Pay:
		return moved(t, x.From, x.To, x.Amount)
	case x.Kind == api.Bond && a.Jailed:
		return t, api.ErrGuilt
	case x.Kind == api.Bond:
		a.Balance, a.Bond = a.Balance-x.Amount, a.Bond+x.Amount
	case x.Kind == api.Leave && a.Leaving != 0:
		return t, api.ErrBusy
	case x.Kind == api.Leave && (x.Amount == 0 || x.Amount > a.Bond):
		return t, api.ErrFunds
	case x.Kind == api.Leave:
		a.Bond, a.Leaving, a.FreeAt = a.Bond-x.Amount, x.Amount, env.Height+env.Epoch+env.Epoch
	case x.Kind == api.Free && a.Leaving == 0:
		return t, api.ErrFunds
	case x.Kind == api.Free && a.FreeAt > env.Height:
		return t, api.ErrBusy
	case x.Kind == api.Free:
		a.Balance, a.Leaving, a.FreeAt = a.Balance+a.Leaving, 0, 0
	}
	return with(t, x.From, a)
}

func toldMake(t trie.Tree, x api.Tx) (trie.Tree, int, api.Errno) {
	c, e := script.Parse(x.Text)
	if e != api.OK {
		return t, 0, e
	}
	if _, e = compile.Compile(c); e != api.OK {
		return t, 0, e
	}
	who := 1<<39 + countOf(t, "made") + 1
	if who >= 1<<40 {
		return t, 0, api.ErrLimit
	}
	next, _ := counted(t, "made")
	next, _ = next.Put("c"+wire.Five(who), x.Text)
	next, e = moved(next, x.From, who, x.Amount)
	return next, who, e
}

func toldParcel(t trie.Tree, x api.Tx) (trie.Tree, int, api.Errno) {
	kind, e := api.Ours, api.OK
	if x.Kind == api.Send {
		if t, e = moved(t, x.From, 1<<39, x.Amount); e != api.OK {
			return t, 0, e
		}
	} else {
		kind = api.Theirs
		a := of(t, x.From)
		if a.Foreign < x.Amount {
			return t, 0, api.ErrFunds
		}
		a.Foreign -= x.Amount
		t, _ = with(t, x.From, a)
	}
	n := countOf(t, "out")
	t, _ = t.Put("o"+wire.Five(n), written(api.Parcel{Kind: kind, To: x.To, Amount: x.Amount}))
	t, e = counted(t, "out")
	return t, n, e
}

func toldFar(t trie.Tree, x api.Tx) (trie.Tree, int, api.Errno) {
	v, e := wire.GetView(t.Get("v"))
	if e != api.OK {
		return t, 0, api.ErrStart
	}
	if x.Kind == api.Show {
		if v, e = light.Accept(v, x.Sights[0]); e != api.OK {
			return t, 0, e
		}
		s, _ := wire.PutView(v)
		t, _ = t.Put("v", s)
		return t, 0, api.OK
	}
	n := countOf(t, "in")
	s, e := trie.Check(v.Width, v.State, "o"+wire.Five(n), x.Proofs[0])
	if e != api.OK {
		return t, 0, e
	}
	if s == "" {
		return t, 0, api.ErrPlace
	}
	p, e := wire.GetParcel(s)
	if e != api.OK {
		return t, 0, e
	}
	if t, e = counted(t, "in"); e != api.OK {
		return t, 0, e
	}
	if p.Kind == api.Theirs {
		t, e = moved(t, 1<<39, p.To, p.Amount)
		return t, n, e
	}
	a := of(t, p.To)
	a.Foreign += p.Amount
	t, e = with(t, p.To, a)
	return t, n, e
}

// toldCall asks the text itself, not its code.
func toldCall(t trie.Tree, env api.Env, x api.Tx) came {
	s := state.New(t)
	o := mean.Call(s, api.Job{From: x.From, To: x.To, Text: x.Text, Args: x.Args, Value: x.Amount, Gas: x.Limit - 16, Height: env.Height})
	code := map[int]api.Errno{api.Failed: api.ErrFailed, api.Out: api.ErrOut}[o.Kind]
	return came{s.Tree(), api.Result{Code: code, Used: 16 + o.Used, Value: o.Value, Notes: o.Notes}}
}

func told(t trie.Tree, env api.Env, x api.Tx) (came, api.Errno) {
	base := map[int]int{api.Make: 32 + len(x.Text), api.Send: 24, api.Return: 24, api.Show: 64, api.Claim: 48}[x.Kind]
	base = max(base, 16)
	need := x.Limit * x.Price
	if map[int]int{api.Pay: 1, api.Make: 1, api.Call: 1, api.Bond: 1, api.Send: 1}[x.Kind] == 1 {
		need += x.Amount
	}
	a := of(t, x.From)
	if _, e := wire.PutTx(x); e != api.OK {
		return came{tree: t}, e
	} else if x.From >= 1<<39 {
		return came{tree: t}, api.ErrKind
	} else if a.Nonce != x.Nonce || a.Nonce == top {
		return came{tree: t}, api.ErrNonce
	} else if x.Limit < base || x.Limit > 65536 {
		return came{tree: t}, api.ErrGas
	} else if need > a.Balance {
		return came{tree: t}, api.ErrFunds
	}
	a.Nonce++
	t, _ = with(t, x.From, a)
	c := came{t, api.Result{Used: base}}
	switch x.Kind {
	case api.Make:
		c.tree, c.res.Value, c.res.Code = toldMake(t, x)
	case api.Call:
		c = toldCall(t, env, x)
	case api.Send, api.Return:
		c.tree, c.res.Value, c.res.Code = toldParcel(t, x)
	case api.Show, api.Claim:
		c.tree, c.res.Value, c.res.Code = toldFar(t, x)
	default:
		c.tree, c.res.Code = toldPlain(t, env, x)
	}
	if c.res.Code != api.OK {
		c = came{t, api.Result{Code: c.res.Code, Used: c.res.Used}}
	}
	if paid, e := moved(c.tree, x.From, env.Proposer, c.res.Used*x.Price); e == api.OK {
		c.tree = paid
	}
	return c, api.OK
}

// near draws a number that is small, or near to the greatest.
func near(r *rand.Rand, small int) int {
	if r.Intn(6) == 0 {
		return top - r.Intn(small)
	}
	return r.Intn(small)
}

func drawnAccount(r *rand.Rand) api.Account {
	a := api.Account{Balance: 200 + r.Intn(3000), Foreign: near(r, 40), Nonce: r.Intn(3), Bond: near(r, 9), Jailed: r.Intn(6) == 0}
	if r.Intn(8) == 0 {
		a.Balance = top - r.Intn(60)
	}
	if r.Intn(2) == 0 {
		a.Leaving, a.FreeAt = near(r, 9), r.Intn(20)
	}
	if r.Intn(30) == 0 {
		a.Nonce = top - r.Intn(2)
	}
	return a
}

const teller = `contract c { slot n: num; map m: who -> num; open fn f(a: num) -> num { n = n + a; m[caller] = value; note n; need n < 20; return n; }
 open fn g(a: num) -> num { pay who(a), 3; return balance(self); } open fn h(a: num) -> num { while a < 9 { n = n + 1; } return a; } }`

func drawnState(t *testing.T, r *rand.Rand, o other) *state.State {
	l := accounts{}
	for who := 1; who < 6; who++ {
		l[who] = drawnAccount(r)
	}
	l[api.Gate] = api.Account{Balance: near(r, 60)}
	l[api.Contracts+1] = api.Account{Balance: near(r, 30)}
	s := begun(t, l)
	for _, name := range []string{"made", "out", "in"} {
		if r.Intn(8) == 0 {
			s.SetCount(name, []int{1, 2, top - api.Contracts - 1, top - api.Contracts, top - 1, top}[r.Intn(6)])
		}
	}
	if r.Intn(2) == 0 {
		s.SetText(api.Contracts+1, teller)
	}
	if r.Intn(5) > 0 {
		believes(t, s, o.view())
	}
	return s
}

func drawnTx(r *rand.Rand, s *state.State, o other) api.Tx {
	x := oneOf(1 + r.Intn(10))
	x.From = 1 + r.Intn(5)
	x.Nonce = s.Account(x.From).Nonce
	x.Price = r.Intn(4)
	x.Limit += r.Intn(300) - 2
	if x.To > 0 {
		x.To = []int{1, 2, 3, 4, 5, 6, 9, api.Gate, api.Contracts + 1, api.Contracts + 1, api.Contracts + 2, top}[r.Intn(12)]
	}
	if x.Amount > 0 {
		x.Amount = near(r, 60)
	}
	switch x.Kind {
	case api.Make:
		x.Text = []string{teller, adder, "contract c {", "contract c { fn f() -> num { return x; } }"}[r.Intn(4)]
	case api.Call:
		x.Text, x.Args = []string{"f", "g", "h", "no"}[r.Intn(4)], []int{r.Intn(12)}
		x.To = []int{api.Contracts + 1, api.Contracts + 1, 3}[r.Intn(3)]
	case api.Show:
		x.Sights = []api.Sight{o.sight(3+r.Intn(6), o.tree.Root())}
	case api.Claim:
		x.Proofs = []api.Proof{o.proof(s.Count("in"))}
	}
	if r.Intn(9) == 0 {
		return spoiltTx(r, x)
	}
	return x
}

func spoiltTx(r *rand.Rand, x api.Tx) api.Tx {
	for _, p := range []*int{&x.Kind, &x.From, &x.Nonce, &x.Price, &x.Limit, &x.To, &x.Amount} {
		if r.Intn(4) == 0 {
			*p = []int{-1, 0, 1, 2, api.Contracts, api.MaxGas, api.MaxGas + 1, top, top + 1}[r.Intn(9)]
		}
	}
	if len(x.Proofs) > 0 {
		x.Proofs[0].Value += "x"
	}
	return x
}

func drawnOther(r *rand.Rand) other {
	var l []string
	for range r.Intn(6) {
		p := api.Parcel{Kind: api.Ours + r.Intn(2), To: 1 + r.Intn(7), Amount: near(r, 60)}
		l = append(l, written(p)+"x"[:r.Intn(9)/8])
	}
	return otherOf(l...)
}

func TestTransactionsAsToldAnew(t *testing.T) {
	r := rand.New(rand.NewSource(15))
	codes := map[api.Errno]int{}
	for range 4000 {
		o := drawnOther(r)
		s := drawnState(t, r, o)
		env := api.Env{Height: 1 + r.Intn(20), Epoch: 1 + r.Intn(4), Proposer: 1 + r.Intn(7)}
		for range 1 + r.Intn(12) {
			x := drawnTx(r, s, o)
			was := s.Tree()
			own, _ := state.Money(was)
			want, wantE := told(was, env, x)
			got, e := ledger.Apply(s, env, x)
			if e != wantE || !sameResult(got, want.res) {
				t.Fatalf("G2, G3: Apply(%v, %v): %v, %d, not %v, %d", env, x, got, e, want.res, wantE)
			}
			if root(s) != want.tree.Root() {
				t.Fatalf("G2, G3: Apply(%v, %v): the state is another: %v, not %v", env, x, s.Tree().Items("", -1), want.tree.Items("", -1))
			}
			if now, _ := state.Money(s.Tree()); now != own {
				t.Fatalf("the money is kept: Apply(%v, %v): %d, not %d", env, x, now, own)
			}
			codes[e]++
			codes[100+got.Code]++
		}
	}
	// What is drawn is to come to all that may come of a transaction.
	for _, e := range []api.Errno{0, api.ErrLimit, api.ErrForm, api.ErrKind, api.ErrNonce, api.ErrGas, api.ErrFunds,
		100 + api.ErrLimit, 100 + api.ErrFunds, 100 + api.ErrShort, 100 + api.ErrName, 100 + api.ErrOut, 100 + api.ErrFailed, 100 + api.ErrGuilt,
		100 + api.ErrBusy, 100 + api.ErrStart, 100 + api.ErrHeight, 100 + api.ErrFar, 100 + api.ErrPlace, 100 + api.ErrLong} {
		if codes[e] == 0 {
			t.Errorf("nothing that was drawn comes to %d", e)
		}
	}
}

func TestPunishmentsAsToldAnew(t *testing.T) {
	r := rand.New(rand.NewSource(16))
	taken := 0
	for range 4000 {
		env := api.Env{Height: 1 + r.Intn(12), Epoch: 1 + r.Intn(4), Proposer: 1}
		now := (env.Height - 1) / env.Epoch
		l := accounts{api.Pot: {Balance: near(r, 20)}}
		for who := 1; who < 5; who++ {
			l[who] = drawnAccount(r)
		}
		s := begun(t, l)
		for epoch := range 12 {
			if r.Intn(3) > 0 {
				ledger.SetBench(s, epoch, seats(1+r.Intn(2), 1, 3+r.Intn(2), 2))
			}
		}
		g := twice(r.Intn(13), 1+r.Intn(4))
		g.B.Block = api.Digest(1 + r.Intn(4))
		want, a, pot := api.ErrGuilt, s.Account(g.A.From), s.Account(api.Pot)
		then := (g.A.Height - 1) / env.Epoch
		seated := false
		for _, x := range ledger.Bench(s.Tree(), then) {
			seated = seated || x.Who == g.A.From
		}
		if g.A.Height >= 1 && g.A.Height <= env.Height && (then == now || then == now-1) && seated && !a.Jailed && g.B.Block != 1 {
			want = api.OK
			pot.Balance += a.Bond + a.Leaving
			if pot.Balance > top {
				want = api.ErrLimit
			}
		}
		was := root(s)
		if e := ledger.Punish(s, env, g); e != want {
			t.Fatalf("G5: Punish(%v, %v) is %d, not %d", env, g, e, want)
		}
		if want != api.OK && root(s) != was {
			t.Fatalf("G5: Punish(%v, %v) was refused, and something has changed", env, g)
		}
		if want == api.OK {
			taken++
			a.Bond, a.Leaving, a.FreeAt, a.Jailed = 0, 0, 0, true
			if s.Account(g.A.From) != a || s.Account(api.Pot) != pot {
				t.Fatalf("G5: Punish(%v, %v): %v, %v, not %v, %v", env, g, s.Account(g.A.From), s.Account(api.Pot), a, pot)
			}
		}
	}
	if taken < 100 {
		t.Errorf("of those drawn only %d were punished", taken)
	}
}

package state_test

import (
	"math"
	"math/rand"
	"strings"
	"testing"

	"assize/api"
	"assize/state"
	"assize/trie"
	"assize/wire"
)

const most = api.MaxNumber

var outside = []int{math.MinInt, -1, most + 1, math.MaxInt}

func empty() *state.State { return state.New(trie.New(8)) }

func TestWhatStandsWhere(t *testing.T) {
	s := empty()
	a := api.Account{Balance: 500, Foreign: 1, Nonce: 2, Bond: 3, Leaving: 4, FreeAt: 5, Jailed: true}
	wants(t, "S3: SetAccount", s.SetAccount(0x0102030405, a), api.OK)
	wants(t, "S3: SetWord", s.SetWord(1, 2, 3, 258), api.OK)
	wants(t, "S3: SetText", s.SetText(most, "text"), api.OK)
	wants(t, "S3: SetCount", s.SetCount("name", 7), api.OK)
	wants(t, "S3: SetCount", s.SetCount("", 8), api.OK)
	written, _ := wire.PutAccount(a)
	for key, value := range map[string]string{
		"a\x01\x02\x03\x04\x05": written,
		"s\x00\x00\x00\x00\x01\x00\x00\x00\x00\x02\x00\x00\x00\x00\x03": "\x02\x01\x02",
		"c\xff\xff\xff\xff\xff": "text",
		"nname":                 "\x01\x07",
		"n":                     "\x01\x08",
	} {
		wants(t, "S3: Get", s.Get(key), value)
		s.Set(key, value)
	}
	wants(t, "S3: how many stand", len(s.Tree().Items("", -1)), 5)
	wants(t, "S3: Account", s.Account(0x0102030405), a)
	wants(t, "S3: Word", s.Word(1, 2, 3), 258)
	wants(t, "S3: Text", s.Text(most), "text")
	wants(t, "S3: Count", s.Count("name"), 7)
	wants(t, "S3: Count", s.Count(""), 8)

	s.SetAccount(0x0102030405, api.Account{})
	s.SetWord(1, 2, 3, 0)
	s.SetText(most, "")
	s.SetCount("name", 0)
	s.SetCount("", 0)
	wants(t, "S3: what is all zero stands", len(s.Tree().Items("", -1)), 0)
}

func TestWhatIsNotThere(t *testing.T) {
	s := empty()
	wants(t, "S3: Account", s.Account(1), api.Account{})
	wants(t, "S3: Word", s.Word(1, 1, 1), 0)
	wants(t, "S3: Text", s.Text(1), "")
	wants(t, "S3: Count", s.Count("x"), 0)
	good, _ := wire.PutAccount(api.Account{Balance: 5})
	for _, bad := range []string{"x", "\x01\x05", good + "\x00", good[:len(good)-1], "\x02\x00\x05", "\x06", "\x01"} {
		s.Set(state.AccountKey(1), bad)
		wants(t, "S3: not written as an account", s.Account(1), api.Account{})
		wants(t, "S3: SetAccount", s.SetAccount(1, api.Account{Nonce: 1}), api.OK)
		wants(t, "S3: Account", s.Account(1), api.Account{Nonce: 1})
		if bad == "\x01\x05" {
			continue
		}
		s.Set("s\x00\x00\x00\x00\x01\x00\x00\x00\x00\x01\x00\x00\x00\x00\x01", bad)
		wants(t, "S3: not written as a number", s.Word(1, 1, 1), 0)
		s.Set("nx", bad)
		wants(t, "S3: not written as a number", s.Count("x"), 0)
	}
	// One field alone is enough to stand.
	for _, a := range []api.Account{{Balance: 1}, {Foreign: 1}, {Nonce: 1}, {Bond: 1}, {Leaving: 1}, {FreeAt: 1}, {Jailed: true}} {
		s.SetAccount(2, a)
		wants(t, "S3: Account", s.Account(2), a)
	}
}

func TestAccountKeys(t *testing.T) {
	for who, key := range map[int]string{
		0: "a\x00\x00\x00\x00\x00", 1: "a\x00\x00\x00\x00\x01", most: "a\xff\xff\xff\xff\xff",
		-1: "a\xff\xff\xff\xff\xff", most + 1: "a\x00\x00\x00\x00\x00", math.MinInt: "a\x00\x00\x00\x00\x00",
	} {
		wants(t, "S3: AccountKey", state.AccountKey(who), key)
	}
}

func TestNumbersOutside(t *testing.T) {
	s := empty()
	// Numbers outside have the keys of others, whose things must not be seen.
	for _, who := range []int{0, most} {
		s.SetAccount(who, api.Account{Balance: 1})
		s.SetText(who, "text")
		for _, b := range []int{0, most} {
			for _, c := range []int{0, most} {
				s.SetWord(who, b, c, 9)
			}
		}
	}
	root := s.Tree().Root()
	for _, n := range outside {
		wants(t, "S4: Account", s.Account(n), api.Account{})
		wants(t, "S4: Text", s.Text(n), "")
		wants(t, "S4: Word", s.Word(n, 0, 0), 0)
		wants(t, "S4: Word", s.Word(0, n, 0), 0)
		wants(t, "S4: Word", s.Word(0, 0, n), 0)
		wants(t, "S4: SetAccount", s.SetAccount(n, api.Account{Balance: 2}), api.ErrLimit)
		wants(t, "S4: SetAccount", s.SetAccount(n, api.Account{}), api.ErrLimit)
		wants(t, "S4: SetText", s.SetText(n, "x"), api.ErrLimit)
		wants(t, "S4: SetText", s.SetText(n, ""), api.ErrLimit)
		wants(t, "S4: SetWord", s.SetWord(n, 0, 0, 1), api.ErrLimit)
		wants(t, "S4: SetWord", s.SetWord(0, n, 0, 0), api.ErrLimit)
		wants(t, "S4: SetWord", s.SetWord(0, 0, n, 1), api.ErrLimit)
		wants(t, "S4: SetWord", s.SetWord(0, 0, 0, n), api.ErrLimit)
		wants(t, "S4: SetCount", s.SetCount("x", n), api.ErrLimit)
		for _, a := range []api.Account{{Balance: n}, {Foreign: n}, {Nonce: n}, {Bond: n}, {Leaving: n}, {FreeAt: n}} {
			wants(t, "S4: SetAccount", s.SetAccount(0, a), api.ErrLimit)
		}
		wants(t, "S5: Move", s.Move(n, 0, 0), api.ErrLimit)
		wants(t, "S5: Move", s.Move(0, n, 0), api.ErrLimit)
		wants(t, "S5: Move", s.Move(0, 1, n), api.ErrLimit)
	}
	wants(t, "S4: what is refused", s.Tree().Root(), root)
	wants(t, "S4: SetWord", s.SetWord(most, most, most, most), api.OK)
	wants(t, "S4: Word", s.Word(most, most, most), most)
	wants(t, "S4: SetCount", s.SetCount("x", most), api.OK)
	wants(t, "S4: Count", s.Count("x"), most)
}

func TestTooLong(t *testing.T) {
	s := empty()
	name := strings.Repeat("x", api.MaxKey-1)
	wants(t, "S4: SetCount", s.SetCount(name, 5), api.OK)
	wants(t, "S4: Count", s.Count(name), 5)
	wants(t, "S4: SetCount of a name too long", s.SetCount(name+"x", 5), api.ErrLimit)
	wants(t, "S4: SetCount of a name too long", s.SetCount(name+"x", 0), api.ErrLimit)
	wants(t, "S4: Count of a name too long", s.Count(name+"x"), 0)
	text := strings.Repeat("t", api.MaxValue)
	wants(t, "S4: SetText", s.SetText(1, text), api.OK)
	wants(t, "S4: SetText of a text too long", s.SetText(1, text+"t"), api.ErrLimit)
	wants(t, "S4: Text", s.Text(1), text)
}

func TestMove(t *testing.T) {
	one := api.Account{Balance: 10, Foreign: 1, Nonce: 2, Bond: 3, Leaving: 4, FreeAt: 5, Jailed: true}
	for i, c := range []struct {
		from, to, amount int
		e                api.Errno
		left, there      int // of 1 and of 2
	}{
		{1, 2, 0, api.OK, 10, 7}, {1, 2, 4, api.OK, 6, 11}, {1, 2, 10, api.OK, 0, 17}, {1, 2, 11, api.ErrFunds, 10, 7},
		{1, 1, 10, api.OK, 10, 7}, {1, 1, 0, api.OK, 10, 7}, {1, 1, 11, api.ErrFunds, 10, 7}, {2, 1, 7, api.OK, 17, 0}, {4, 1, 1, api.ErrFunds, 10, 7},
		{3, 2, most - 7, api.OK, 10, most}, {3, 2, most - 6, api.ErrLimit, 10, 7}, {3, 2, most, api.ErrLimit, 10, 7},
		{3, 3, most, api.OK, 10, 7}, {1, 3, 1, api.ErrLimit, 10, 7}, {1, 3, 0, api.OK, 10, 7}, {1, 3, 11, api.ErrFunds, 10, 7},
	} {
		s := empty()
		s.SetAccount(1, one)
		s.SetAccount(2, api.Account{Balance: 7})
		s.SetAccount(3, api.Account{Balance: most})
		before := s.Tree().Root()
		if e := s.Move(c.from, c.to, c.amount); e != c.e {
			t.Errorf("S5: case %d: %d, not %d", i, e, c.e)
		}
		want := one
		want.Balance = c.left
		wants(t, "S5: the one account", s.Account(1), want)
		wants(t, "S5: the other account", s.Account(2), api.Account{Balance: c.there})
		if own, foreign := state.Money(s.Tree()); own != 10+3+4+7+most || foreign != 1 {
			t.Errorf("S5: case %d: %d %d in all", i, own, foreign)
		}
		if c.e != api.OK && s.Tree().Root() != before {
			t.Errorf("S5: case %d: refused, and yet changed", i)
		}
	}
}

// An account that has nothing else is no more when its balance is gone; a new one stands.
func TestMoveAll(t *testing.T) {
	s := empty()
	s.SetAccount(1, api.Account{Balance: 5})
	s.Mark()
	wants(t, "S5: Move", s.Move(1, 2, 5), api.OK)
	wants(t, "S3: the giver's", s.Get(state.AccountKey(1)), "")
	wants(t, "S5: the taker's", s.Account(2), api.Account{Balance: 5})
	s.Undo(0)
	wants(t, "S2: the giver's", s.Account(1), api.Account{Balance: 5})
	wants(t, "S2: the taker's", s.Get(state.AccountKey(2)), "")
}

// Where nothing is moved nothing is written, not even over what is no account.
func TestMoveNothing(t *testing.T) {
	s := empty()
	s.Set(state.AccountKey(1), "no account")
	wants(t, "S5: Move", s.Move(1, 2, 0), api.OK)
	wants(t, "S5: Move", s.Move(2, 1, 0), api.OK)
	wants(t, "S5: Move", s.Move(1, 1, 0), api.OK)
	wants(t, "S5: what stood there", s.Get(state.AccountKey(1)), "no account")
}

func TestMoneyIsKept(t *testing.T) {
	r := rand.New(rand.NewSource(5))
	s := empty()
	for who := range 6 {
		s.SetAccount(who, api.Account{Balance: r.Intn(50), Foreign: 1 + who, Bond: r.Intn(9), Leaving: r.Intn(9), Nonce: 99, FreeAt: 99})
	}
	own, foreign := state.Money(s.Tree())
	for range 500 {
		s.Move(r.Intn(8), r.Intn(8), r.Intn(30))
		if x, y := state.Money(s.Tree()); x != own || y != foreign {
			t.Fatalf("S5: %d %d, not %d %d", x, y, own, foreign)
		}
	}
}

func TestMoney(t *testing.T) {
	s := empty()
	if own, foreign := state.Money(s.Tree()); own != 0 || foreign != 0 {
		t.Errorf("S6: of nothing: %d %d", own, foreign)
	}
	s.SetAccount(0, api.Account{Balance: 1, Foreign: 1000, Bond: 20, Leaving: 300, Nonce: 7, FreeAt: 7, Jailed: true})
	s.SetAccount(most, api.Account{Balance: most, Foreign: most})
	s.SetCount("x", 5)
	s.SetWord(1, 1, 1, 5)
	other, _ := wire.PutAccount(api.Account{Balance: 4000, Foreign: 50000})
	s.Set("a", other)
	s.Set("account", other)
	s.Set("b", other)
	s.Set("", other)
	s.Set("aa", "no account")
	if own, foreign := state.Money(s.Tree()); own != 1+20+300+most+8000 || foreign != 1000+most+100000 {
		t.Errorf("S6: %d %d", own, foreign)
	}
}

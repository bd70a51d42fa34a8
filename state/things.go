package state

import (
	"assize/api"
	"assize/trie"
	"assize/wire"
)

// What the keys begin with: those of accounts, of words and texts of contracts, of the ledger's own numbers.
const (
	accounts = "a"
	words    = "s"
	texts    = "c"
	counts   = "n"
)

// numbers: are all of them numbers, as chapter 1 has it?
func numbers(l ...int) bool {
	for _, n := range l {
		if n < 0 || n > api.MaxNumber {
			return false
		}
	}
	return true
}

// AccountKey is the key of an account.
func AccountKey(who int) string { return accounts + wire.Five(who) }

func wordKey(who, variable, key int) string {
	return words + wire.Five(who) + wire.Five(variable) + wire.Five(key)
}

func textKey(who int) string { return texts + wire.Five(who) }

// accountOf is the account that is written so; all zero, if none is.
func accountOf(written string) api.Account {
	a, _ := wire.GetAccount(written)
	return a
}

// numberOf is the number that is written so; 0, if none is.
func numberOf(written string) int {
	n, _ := wire.GetNumber(written)
	return n
}

// Account is that of who; where nothing stands that is one it is all zero.
func (s *State) Account(who int) api.Account {
	if !numbers(who) {
		return api.Account{}
	}
	return accountOf(s.Get(AccountKey(who)))
}

// SetAccount puts the account of who; one that is all zero is not there.
func (s *State) SetAccount(who int, a api.Account) api.Errno {
	written, e := wire.PutAccount(a)
	if e != api.OK {
		return e
	}
	if !numbers(who) {
		return api.ErrLimit
	}
	if a == (api.Account{}) {
		written = ""
	}
	return s.Set(AccountKey(who), written)
}

// Move takes so much from the balance of one to that of another.
func (s *State) Move(from, to, amount int) api.Errno {
	if !numbers(from, to, amount) {
		return api.ErrLimit
	}
	giver, taker := s.Account(from), s.Account(to)
	if giver.Balance < amount {
		return api.ErrFunds
	}
	if from != to && taker.Balance+amount > api.MaxNumber {
		return api.ErrLimit
	}
	if from == to || amount == 0 {
		return api.OK
	}
	giver.Balance -= amount
	taker.Balance += amount
	s.SetAccount(from, giver)
	return s.SetAccount(to, taker)
}

// setNumber puts a number at a key; 0 is not there.
func (s *State) setNumber(key string, n int) api.Errno {
	written, e := wire.PutNumber(n)
	if e != api.OK {
		return e
	}
	if n == 0 {
		written = ""
	}
	return s.Set(key, written)
}

// Word is what a variable of a contract has at a key.
func (s *State) Word(who, variable, key int) int {
	if !numbers(who, variable, key) {
		return 0
	}
	return numberOf(s.Get(wordKey(who, variable, key)))
}

// SetWord puts it.
func (s *State) SetWord(who, variable, key, n int) api.Errno {
	if !numbers(who, variable, key) {
		return api.ErrLimit
	}
	return s.setNumber(wordKey(who, variable, key), n)
}

// Text is that of a contract.
func (s *State) Text(who int) string {
	if !numbers(who) {
		return ""
	}
	return s.Get(textKey(who))
}

// SetText puts it.
func (s *State) SetText(who int, text string) api.Errno {
	if !numbers(who) {
		return api.ErrLimit
	}
	return s.Set(textKey(who), text)
}

// Count is a number of the ledger's own, by its name.
func (s *State) Count(name string) int { return numberOf(s.Get(counts + name)) }

// SetCount puts it.
func (s *State) SetCount(name string, n int) api.Errno { return s.setNumber(counts+name, n) }

// Money is all that there is: of the ledger's own money, and of the other ledger's.
func Money(t trie.Tree) (own, foreign int) {
	for _, item := range t.Items(accounts, -1) {
		a := accountOf(item.Value)
		own += a.Balance + a.Bond + a.Leaving
		foreign += a.Foreign
	}
	return own, foreign
}

package script

import (
	"assize/api"
)

// Here stands how things are spelled: what is read and what is written both look here.

var kindWords = [...]string{api.Num: "num", api.Flag: "flag", api.Who: "who"}

// Steps that begin with a NAME have no word.
var stepWords = [...]string{
	api.Let: "let", api.If: "if", api.While: "while", api.Give: "return", api.Need: "need",
	api.PayOut: "pay", api.Tell: "note", api.Ask: "ask",
}

var exprWords = [...]string{
	api.Or: "or", api.And: "and", api.Not: "not",
	api.Eq: "==", api.Ne: "!=", api.Lt: "<", api.Le: "<=", api.Gt: ">", api.Ge: ">=",
	api.Add: "+", api.Sub: "-", api.Mul: "*", api.Div: "/", api.Mod: "%",
	api.Self: "self", api.Caller: "caller", api.Value: "value", api.Height: "height",
	api.Balance: "balance", api.AsWho: "who", api.AsNum: "num",
}

// How tightly an expression holds together: its rank.
const (
	ors = iota + 1
	ands
	nots
	compares
	sums
	products
	atoms
)

func rankOf(op int) int {
	switch op {
	case api.Or:
		return ors
	case api.And:
		return ands
	case api.Not:
		return nots
	case api.Eq, api.Ne, api.Lt, api.Le, api.Gt, api.Ge:
		return compares
	case api.Add, api.Sub:
		return sums
	case api.Mul, api.Div, api.Mod:
		return products
	}
	return atoms
}

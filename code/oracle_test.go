package code_test

import (
	"strings"

	"assize/api"
)

// Here the chapter is told anew: its table as a table, and all ways through a piece, one by one.

// table: instruction, what it takes, what it leaves, what its A is, what its B is, its gas.
const table = `
Push 0 1 number 0 1
Pop 1 0 0 0 1
Load 0 1 local 0 1
Store 1 0 local 0 1
Plus 2 1 0 0 1
Minus 2 1 0 0 1
Times 2 1 0 0 1
Over 2 1 0 0 1
Rest 2 1 0 0 1
Same 2 1 0 0 1
Under 2 1 0 0 1
Above 2 1 0 0 1
Flip 1 1 0 0 1
Jump 0 0 place 0 1
Zero 1 0 place 0 1
Enter params 1 piece 0 2
Back 1 0 0 0 1
Read 0 1 variable 0 4
Write 1 0 variable 0 8
Seek 1 1 variable 0 4
Stow 2 0 variable 0 8
Me 0 1 0 0 1
From 0 1 0 0 1
Paid 0 1 0 0 1
High 0 1 0 0 1
Purse 1 1 0 0 4
Hand 2 0 0 0 16
Say 1 0 0 0 4
Must 1 0 0 0 1
Reach args 2 args name 16`

type row struct{ name, takes, leaves, a, b, gas string }

// rows: by the instruction's number.
func rows() map[int]row {
	m := map[int]row{}
	for i, line := range strings.Split(strings.TrimSpace(table), "\n") {
		w := strings.Fields(line)
		m[i+1] = row{w[0], w[1], w[2], w[3], w[4], w[5]}
	}
	return m
}

var all = rows()

func toNumber(s string) int {
	n := 0
	for _, c := range s {
		n = 10*n + int(c-'0')
	}
	return n
}

// most: the greatest A or B of what a word of the table says; below 0: there is none.
func most(word string, c api.Code, p api.Piece) int {
	switch word {
	case "number":
		return 1<<40 - 1
	case "local":
		return p.Locals - 1
	case "place":
		return len(p.Body) - 1
	case "piece":
		return len(c.Pieces) - 1
	case "variable":
		return 31
	case "args":
		return 8
	case "name":
		return len(c.Names) - 1
	}
	return 0
}

func taken(c api.Code, i api.Instr) int {
	switch w := all[i.Op].takes; w {
	case "params":
		return c.Pieces[i.A].Params
	case "args":
		return i.A + 3
	default:
		return toNumber(w)
	}
}

// oracle: what C2 says of code.
func oracle(c api.Code) api.Errno {
	if len(c.Pieces) > 32 {
		return api.ErrLimit
	}
	for _, p := range c.Pieces {
		if len(p.Body) > 2048 || p.Locals > 32 || p.Params > 8 {
			return api.ErrLimit
		}
	}
	for _, p := range c.Pieces {
		if p.Params < 0 || p.Params > p.Locals {
			return api.ErrCode
		}
		for _, i := range p.Body {
			r, ok := all[i.Op]
			if !ok || i.A < 0 || i.A > most(r.a, c, p) || i.B < 0 || i.B > most(r.b, c, p) {
				return api.ErrCode
			}
		}
	}
	for _, p := range c.Pieces {
		if !goes(c, p) {
			return api.ErrCode
		}
	}
	return api.OK
}

// spot: a way stands ahead of an instruction, with a height.
type spot struct{ at, height int }

// goes: all spots to which ways lead, and whether each may be.
func goes(c api.Code, p api.Piece) bool {
	seen := map[spot]bool{{0, 0}: true}
	heights := map[int]int{}
	for list := []spot{{0, 0}}; len(list) > 0; list = list[1:] {
		s := list[0]
		if s.at == len(p.Body) || s.height > 64 {
			return false
		}
		if h, ok := heights[s.at]; ok && h != s.height {
			return false
		}
		heights[s.at] = s.height
		i := p.Body[s.at]
		name := all[i.Op].name
		if s.height < taken(c, i) || name == "Back" && s.height != 1 {
			return false
		}
		h := s.height - taken(c, i) + toNumber(all[i.Op].leaves)
		next := []spot{{s.at + 1, h}}
		switch name {
		case "Back":
			next = nil
		case "Jump":
			next[0].at = i.A
		case "Zero":
			next = append(next, spot{i.A, h})
		}
		for _, n := range next {
			if !seen[n] {
				seen[n] = true
				list = append(list, n)
			}
		}
	}
	return true
}

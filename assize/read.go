package assize

import (
	"slices"
	"strconv"
	"strings"

	"assize/api"
)

// forms are the lines that there are. What stands in the place of a word: N a number,
// Z one that may be below 0, D a digest or the word none, and .. so many numbers as there are.
var forms = [...]string{
	"ledger N N N N",
	"start N N N",
	"liar N",
	"pay N N N N N N at N",
	"bond N N N N N at N",
	"leave N N N N N at N",
	"free N N N N at N",
	"deliver Z",
	"drop Z",
	"double Z",
	"tick N",
	"begin N",
	"stop N N N",
	"calm N",
	"vote N N N N N D",
	"twice N N N N N",
	"look N",
	"account N N",
	"way",
	"show N ..",
}

// none is read in the place of a digest where there is none.
const none = -1

// read is the first word of a line, and its numbers; not, if it is none of the lines that there are.
func read(line string) (verb string, n []int, is bool) {
	words := strings.Split(line, " ")
	for _, f := range forms {
		form := asLong(strings.Split(f, " "), len(words))
		if n, is := match(form, words); is {
			return words[0], n, true
		}
	}
	return "", nil, false
}

// asLong is a form with so many numbers in the place of its .. that it has as many words as a line.
func asLong(form []string, words int) []string {
	last := len(form) - 1
	if form[last] != ".." {
		return form
	}
	return slices.Concat(form[:last], slices.Repeat([]string{"N"}, max(0, words-last)))
}

// match is the numbers among the words of a line, if all of them are as a form says.
func match(form, words []string) (n []int, is bool) {
	if len(form) != len(words) {
		return nil, false
	}
	for i, word := range words {
		switch form[i] {
		case "N", "Z", "D":
			x, is := number(form[i], word)
			if !is {
				return nil, false
			}
			n = append(n, x)
		case word:
		default:
			return nil, false
		}
	}
	return n, true
}

// number is the number that a word tells, if it is one that may stand in a place.
func number(place, word string) (n int, is bool) {
	if place == "D" && word == "none" {
		return none, true
	}
	least := 0
	if place == "Z" {
		least = -api.MaxNumber
	}
	n, err := strconv.Atoi(word)
	// There is one way alone to write a number: the one in which it is told.
	return n, err == nil && strconv.Itoa(n) == word && n >= least && n <= api.MaxNumber
}

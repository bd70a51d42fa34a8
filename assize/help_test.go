package assize_test

import (
	"strings"
	"testing"

	"assize/assize"
)

// six are the lines with which the document's sessions begin.
const six = "ledger 1 8 2 900\nstart 1 500 2\nstart 2 500 2\nstart 3 500 2\nstart 4 500 1\nstart 50 9000 0\n"

// ok is so many times the answer ok.
func ok(n int) string { return strings.Repeat("ok\n", n) }

// answers asks for what a text is answered.
func answers(t *testing.T, what, text, want string) {
	t.Helper()
	if got := assize.Session(text); got != want {
		t.Errorf("%s: %.200q is answered %.400q, not %.400q", what, text, got, want)
	}
}

// behind asks for what lines are answered behind the six.
func behind(t *testing.T, what, lines, want string) {
	t.Helper()
	answers(t, what, six+lines, ok(6)+want)
}

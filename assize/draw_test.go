package assize_test

import (
	"fmt"
	"math/rand"
	"regexp"
	"strconv"
	"strings"
	"testing"

	"assize/api"
	"assize/assize"
	"assize/state"
	"assize/world"
)

// plain is a session as the chapter tells it, told once more: each kind of line is a pattern, and what it does.
type plain struct {
	g     api.Genesis
	liars []int
	w     *world.World
}

// kind is a kind of lines; what it does is handed the numbers, of which none is below 0 but where one may be, and a -1 for the word none.
type kind struct {
	pattern *regexp.Regexp
	world   bool // it needs one
	does    func(n []int) string
}

// pattern makes one of a line in which # is a number, ~ one that may be below 0, and ? a number or none.
func pattern(s string) *regexp.Regexp {
	s = strings.NewReplacer("#", "(0|[1-9][0-9]*)", "~", "(0|-?[1-9][0-9]*)", "?", "(0|[1-9][0-9]*|none)").Replace(s)
	return regexp.MustCompile(`\A` + s + `\z`)
}

func errno(e api.Errno) string {
	if e == api.OK {
		return "ok\n"
	}
	return fmt.Sprintf("error %d\n", int(e))
}

func (p *plain) tx(kind int) func(n []int) string {
	return func(n []int) string {
		t := api.Tx{Kind: kind, From: n[0], Nonce: n[1], Price: n[2], Limit: n[3]}
		switch len(n) {
		case 7:
			t.To, t.Amount = n[4], n[5]
		case 6:
			t.Amount = n[4]
		}
		return errno(p.w.Submit(n[len(n)-1], t))
	}
}

func (p *plain) net(kind int) func(n []int) string {
	return func(n []int) string { return errno(p.w.Net(kind, n[0])) }
}

func (p *plain) kinds() []kind {
	return []kind{
		{pattern("ledger # # # #"), false, func(n []int) string {
			p.g, p.liars, p.w = api.Genesis{Chain: n[0], Width: n[1], Epoch: n[2], Gas: n[3]}, nil, nil
			return "ok\n"
		}},
		{pattern("start # # #"), false, func(n []int) string {
			p.g.Starts, p.w = append(p.g.Starts, api.Start{Who: n[0], Balance: n[1], Bond: n[2]}), nil
			return "ok\n"
		}},
		{pattern("liar #"), false, func(n []int) string { p.liars, p.w = append(p.liars, n[0]), nil; return "ok\n" }},
		{pattern("pay # # # # # # at #"), true, p.tx(api.Pay)},
		{pattern("bond # # # # # at #"), true, p.tx(api.Bond)},
		{pattern("leave # # # # # at #"), true, p.tx(api.Leave)},
		{pattern("free # # # # at #"), true, p.tx(api.Free)},
		{pattern("deliver ~"), true, p.net(api.Deliver)},
		{pattern("drop ~"), true, p.net(api.Drop)},
		{pattern("double ~"), true, p.net(api.Double)},
		{pattern("tick #"), true, func(n []int) string { return errno(p.w.Tick(n[0])) }},
		{pattern("begin #"), true, func(n []int) string { return errno(p.w.Begin(n[0])) }},
		{pattern("stop # # #"), true, func(n []int) string { return errno(p.w.Stop(n[0], n[1], n[2])) }},
		{pattern("calm #"), true, func(n []int) string { p.w.Calm(n[0]); return "ok\n" }},
		{pattern("vote # # # # # ?"), true, p.lie},
		{pattern("twice # # # # #"), true, p.lie},
		{pattern("look #"), true, p.look},
		{pattern("account # #"), true, p.account},
		{pattern("way"), true, func([]int) string { return fmt.Sprintf("way %d\n", p.w.Way()) }},
		{pattern("show #( #)*"), true, p.show},
	}
}

func (p *plain) lie(n []int) string {
	v := api.Vote{Height: n[2], Round: n[3], Stage: n[4], Has: true, Block: 1, From: n[0]}
	u := v
	u.Block = 2
	l := []api.Vote{v, u}
	if len(n) == 6 {
		l = l[:1]
		l[0].Has, l[0].Block = n[5] >= 0, api.Digest(max(0, n[5]))
	}
	return errno(p.w.Lie(api.Message{From: n[0], To: n[1], Height: n[2], Votes: l}))
}

func (p *plain) look(n []int) string {
	x, e := p.w.Node(n[0])
	if e != api.OK {
		return errno(e)
	}
	height, round, step := x.Height()
	s := fmt.Sprintf("node %d height %d round %d step %d waiting %d guilts %d\n", n[0], height, round, step, len(x.Waiting()), len(x.Guilts()))
	for i := 1; i <= height; i++ {
		k, _ := x.Final(i)
		s += fmt.Sprintf("%d %016x %d\n", i, uint64(k.Cert.Block), len(k.Block.Txs))
	}
	return s
}

func (p *plain) account(n []int) string {
	x, e := p.w.Node(n[0])
	if e != api.OK {
		return errno(e)
	}
	height, _, _ := x.Height()
	tip, _ := x.Tip(height)
	a := state.New(tip.Tree()).Account(n[1])
	jailed := map[bool]int{true: 1}[a.Jailed]
	return fmt.Sprintf("account %d balance %d foreign %d nonce %d bond %d leaving %d jailed %d\n", n[1], a.Balance, a.Foreign, a.Nonce, a.Bond, a.Leaving, jailed)
}

func (p *plain) show(n []int) string {
	if _, e := p.w.Node(n[0]); e != api.OK {
		return errno(e)
	}
	v, _ := world.View(p.g)
	v, l := p.w.Show(n[0], v, n[1:])
	s := fmt.Sprintf("believes %d\n", v.Height)
	for _, e := range l {
		s += errno(e)
	}
	return s
}

// numbers are those among the words of a line, if none is too great.
func numbers(line string) ([]int, bool) {
	var l []int
	for _, word := range strings.Split(line, " ")[1:] {
		if word == "at" {
			continue
		}
		n, e := strconv.ParseInt(word, 10, 64)
		if word == "none" {
			n, e = -1, nil
		}
		if e != nil || n > api.MaxNumber || n < -api.MaxNumber {
			return nil, false
		}
		l = append(l, int(n))
	}
	return l, true
}

func (p *plain) answer(kinds []kind, line string) string {
	for _, k := range kinds {
		if !k.pattern.MatchString(line) {
			continue
		}
		n, is := numbers(line)
		if !is {
			return "bad\n"
		}
		if k.world && p.w == nil {
			w, e := world.New(p.g, p.liars)
			if e != api.OK {
				return errno(e)
			}
			p.w = w
		}
		return k.does(n)
	}
	return "bad\n"
}

func (p *plain) session(text string) string {
	if len(text) > 20000 {
		return "too long\n"
	}
	l := strings.SplitAfter(text, "\n")
	if l[len(l)-1] == "" {
		l = l[:len(l)-1]
	}
	if len(l) > 1000 {
		return "too long\n"
	}
	s, kinds := "", p.kinds()
	for _, line := range l {
		s += p.answer(kinds, strings.TrimSuffix(line, "\n"))
	}
	return s
}

// drawLine is mostly one of the lines that there are; those that lie are mostly the liar's.
func drawLine(r *rand.Rand, liar int) string {
	w, n := []int{1, 2, 3, 1, 2, 3, 1, 2, 3, 4, 50}[r.Intn(11)], r.Intn
	if n(4) == 0 {
		liar = w
	}
	lie := fmt.Sprint(liar, []int{0, 0, 0, 1, 2, 3, 4}[n(7)], 1+n(2), n(2), []int{0, 1, 1, 1, 2, 3}[n(6)])
	tx := fmt.Sprint([]int{50, 50, 50, 1, 2, 0}[n(6)], n(3), []int{0, 1, 2, 9000}[n(4)], []int{16, 16, 16, 20, 15, 70000}[n(6)])
	l := []string{
		fmt.Sprintf("pay %s %d %d at %d", tx, n(9), n(90), w), fmt.Sprintf("pay %s 60 5 at %d", tx, w),
		fmt.Sprintf("bond %s %d at %d", tx, n(9), w), fmt.Sprintf("leave %s %d at %d", tx, n(3), w), fmt.Sprintf("free %s at %d", tx, w),
		fmt.Sprint("deliver ", n(9)-4), fmt.Sprint("deliver ", n(9)-4), fmt.Sprint("deliver ", n(9)-4), fmt.Sprint("drop ", n(9)-4), fmt.Sprint("double ", n(9)-4),
		"tick 0", fmt.Sprint("tick ", w), fmt.Sprint("begin ", w), fmt.Sprint("begin ", w), fmt.Sprint("stop ", w, " ", n(4), " ", n(99)), fmt.Sprint("calm ", n(4)), fmt.Sprint("calm ", n(9)),
		fmt.Sprint("vote ", lie, " ", n(4)), "vote " + lie + " none", "twice " + lie, "twice " + lie,
		fmt.Sprint("look ", w), fmt.Sprint("look ", w), fmt.Sprint("account ", w, " ", []int{0, w, 50, 60}[n(4)]), "way", fmt.Sprint("show ", w), fmt.Sprint("show ", w, " ", 1+n(2), " ", 1+n(4), " ", n(9)),
	}
	line := l[n(len(l))]
	if n(60) == 0 {
		line = []string{"ledger 1 8 2 900", "start 51 50 1", "liar 1", "liar 9", "", "nothing"}[n(6)]
	}
	if n(15) == 0 && line != "" {
		i := n(len(line))
		line = line[:i] + []string{" ", "", "0", "-", "x", "9999999999999", "\t", "1"}[n(8)] + line[i+n(2):]
	}
	return line
}

func TestSessionsAsToldAnew(t *testing.T) {
	r := rand.New(rand.NewSource(24))
	tally := map[string]int{}
	for range 500 {
		l := []string{fmt.Sprint("ledger 1 ", 1+r.Intn(8), " ", 1+r.Intn(3), " 900"), "start 1 500 2", "start 2 500 2", "start 3 500 2"}
		if r.Intn(2) == 0 {
			l = append(l, "start 4 500 1")
		}
		l = append(l, "start 50 9000 0")
		liar := 1 + r.Intn(3)
		if r.Intn(2) == 0 {
			l = append(l, fmt.Sprint("liar ", liar))
		}
		for range r.Intn(60) {
			l = append(l, drawLine(r, liar))
			switch r.Intn(9) {
			case 0:
				l = append(l, l[len(l)-1])
			case 1:
				l = append(l, "deliver -1", "look 1", "look 2", "look 3")
			}
		}
		text := strings.Join(l, "\n")
		got, want := assize.Session(text), new(plain).session(text)
		if got != want {
			t.Fatalf("Z1: %q is answered %q, not %q", text, got, want)
		}
		if again := assize.Session(text); again != got {
			t.Fatalf("P2: %q is answered otherwise when it is asked again", text)
		}
		for _, line := range strings.Split(got, "\n") {
			first, second, _ := strings.Cut(line, " ")
			if first == "error" {
				first = line
			}
			if first == "node" && !strings.HasSuffix(second, "guilts 0") {
				tally["guilts"]++
			}
			tally[first]++
		}
	}
	for _, what := range []string{
		"ok", "bad", "node", "account", "way", "believes", "guilts",
		"error 2", "error 14", "error 15", "error 16", "error 17", "error 26", "error 27", "error 30", "error 31",
	} {
		if tally[what] < 10 {
			t.Errorf("what is drawn comes to little: of %q there are %d", what, tally[what])
		}
	}
}

// Whatever bytes there are, it is answered, line by line.
func TestAnyText(t *testing.T) {
	r := rand.New(rand.NewSource(25))
	words := []string{"ledger", "start", "liar", "pay", "at", "calm", "tick", "look", "show", "way", "stop", "vote", "none", "twice", " ", " ", " ", " ", "\n", "\n", "1", "2", "0", "-1", "8", "900", "\x00", "é", "1099511627775"}
	for range 3000 {
		text := ""
		if r.Intn(2) == 0 {
			text = six
		}
		for range r.Intn(30) {
			text += words[r.Intn(len(words))]
		}
		if got, want := assize.Session(text), new(plain).session(text); got != want {
			t.Fatalf("Z1: %q is answered %q, not %q", text, got, want)
		}
	}
}

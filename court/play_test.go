package court_test

import (
	"strconv"
	"strings"
	"testing"

	"assize/api"
	"assize/block"
	"assize/court"
)

// A play is a text, a line a call of a court of the ledger four, with what it
// answers behind a colon: what the court wants, who is guilty, the error, and
// where it is then, as @round.step.
type play struct {
	t      *testing.T
	tip    block.Tip
	c      *court.Court
	labels map[api.Digest]string
}

func plays(t *testing.T, promise, text string) {
	t.Helper()
	p := &play{t: t, tip: begin(t, four())}
	p.labels = labels(t, p.tip)
	for i, line := range strings.Split(text, "\n") {
		call, want, _ := strings.Cut(strings.TrimSpace(line), ":")
		if call == "" {
			continue
		}
		got := strings.Join(strings.Fields(p.does(strings.Fields(call))), " ")
		if got != strings.TrimSpace(want) {
			t.Fatalf("%s: line %d, %s: %s, not%s", promise, i, call, got, want)
		}
	}
}

func number(s string) int {
	n, _ := strconv.Atoi(s)
	return n
}

// does a call, and tells what came of it.
func (p *play) does(w []string) string {
	switch w[0] {
	case "new":
		p.c = court.New(p.tip, number(w[1]))
		return ""
	case "fill":
		p.c.Fill(paid(w[1]), nil)
		return ""
	case "redo":
		p.c.Redo(p.record(w[1:]))
		return p.where()
	case "says":
		return p.message(p.c.Says())
	case "locked":
		return p.knowns(p.c.Locked())
	case "done":
		return p.knowns(p.c.Done())
	}
	return p.hears(w) + " " + p.where()
}

// hears does the calls after which a court may want something.
func (p *play) hears(w []string) string {
	var l []api.Record
	var g api.Guilt
	var e api.Errno
	switch w[0] {
	case "begin":
		l = p.c.Begin()
	case "ticks":
		for range number(w[1]) {
			l = append(l, p.c.Tick()...)
		}
	case "vote":
		l, g, e = p.c.Vote(p.record(append([]string{"voted"}, w[1:]...)).Vote)
	case "motion":
		from := strconv.Itoa(p.tip.Leader(number(w[1])))
		l, g, e = p.c.Motion(p.record(append([]string{"moved", w[1], w[2], from}, w[3:]...)).Motion)
	case "known":
		l, e = p.c.Known(knownOf(p.t, p.tip, number(w[1]), number(w[2]), w[3], w[4]))
	default:
		p.t.Fatalf("no call: %v", w)
	}
	return p.records(l) + p.guilt(g) + errorText(e)
}

// record: voted round stage block from; moved round block from [on round froms]; locked, closed round block froms.
func (p *play) record(w []string) api.Record {
	switch w[0] {
	case "voted":
		return api.Record{Kind: api.Voted, Vote: ballot(p.t, p.tip, number(w[1]), number(w[2]), w[3], number(w[4]))}
	case "moved":
		m := api.Motion{Round: number(w[1]), From: number(w[3]), Block: made(p.t, p.tip, w[2])}
		if len(w) > 4 {
			m.Basis = []api.Cert{certOf(p.t, p.tip, number(w[5]), api.First, w[2], w[6])}
		}
		return api.Record{Kind: api.Moved, Motion: m}
	case "locked":
		return api.Record{Kind: api.Locked, Known: knownOf(p.t, p.tip, number(w[1]), api.First, w[2], w[3])}
	}
	return api.Record{Kind: api.Closed, Known: knownOf(p.t, p.tip, number(w[1]), api.Second, w[2], w[3])}
}

func (p *play) where() string {
	round, step := p.c.Where()
	return "@" + strconv.Itoa(round) + "." + strconv.Itoa(step)
}

func (p *play) records(l []api.Record) string {
	out := ""
	for _, x := range l {
		switch x.Kind {
		case api.Voted:
			out += "voted" + p.vote(x.Vote)
		case api.Moved:
			out += "moved" + p.motion(x.Motion)
		case api.Locked:
			out += "locked" + p.known(x.Known)
		case api.Closed:
			out += "closed" + p.known(x.Known)
		}
	}
	return out
}

func (p *play) vote(v api.Vote) string {
	return inBrackets(strconv.Itoa(v.Round), strconv.Itoa(v.Stage), p.label(v.Has, v.Block), strconv.Itoa(v.From))
}

func (p *play) label(has bool, name api.Digest) string {
	if !has {
		return "-"
	}
	return p.labels[name]
}

func (p *play) motion(m api.Motion) string {
	w := []string{strconv.Itoa(m.Round), p.labels[p.tip.Name(m.Block.Header)], strconv.Itoa(m.From)}
	for _, x := range m.Basis {
		w = append(w, "on", strconv.Itoa(x.Round), froms(x))
	}
	return inBrackets(w...)
}

func froms(x api.Cert) string {
	out := ""
	for _, who := range x.Froms {
		out += strconv.Itoa(who)
	}
	return out
}

// known tells a block and its votes; that they are for this block is asked, too.
func (p *play) known(k api.Known) string {
	name := p.tip.Name(k.Block.Header)
	if k.Cert.Block != name || !k.Cert.Has || k.Cert.Height != 1 {
		return "(a cert that is not for it)"
	}
	return inBrackets(strconv.Itoa(k.Cert.Round), strconv.Itoa(k.Cert.Stage), p.labels[name], froms(k.Cert))
}

func (p *play) knowns(l []api.Known) string {
	out := ""
	for _, k := range l {
		out += "known" + p.known(k)
	}
	return out
}

func (p *play) guilt(g api.Guilt) string {
	if (g == api.Guilt{}) {
		return ""
	}
	return "guilt" + p.vote(g.A) + p.vote(g.B)
}

func (p *play) message(m api.Message) string {
	out := ""
	if m.From != 0 || m.To != 0 || m.Height != 1 || len(m.Txs) > 0 {
		out += "(not of this height alone)"
	}
	for _, v := range m.Votes {
		out += "vote" + p.vote(v)
	}
	for _, x := range m.Motions {
		out += "motion" + p.motion(x)
	}
	return out + p.knowns(m.Knowns)
}

func inBrackets(l ...string) string { return "(" + strings.Join(l, " ") + ") " }

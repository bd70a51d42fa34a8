package wal_test

import (
	"strconv"
	"strings"
	"testing"

	"assize/api"
	"assize/digest"
	"assize/wal"
	"assize/wire"
)

// ballot is a short record: somebody's vote for none. Its frame has 30 bytes, if from is below 256.
func ballot(from int) api.Record {
	return api.Record{Kind: api.Voted, Vote: api.Vote{Height: 1, Stage: api.First, From: from}}
}

func header(height int) api.Header {
	return api.Header{Chain: 1, Height: height, Parent: 2, Txs: 3, Guilts: 4, State: 5, Results: 6, Bench: 7, Proposer: 8}
}

// kinds is a record of each kind, with lists in it.
func kinds() []api.Record {
	pay := api.Tx{Kind: api.Pay, From: 50, Limit: 16, To: 60, Amount: 25}
	call := api.Tx{Kind: api.Call, From: 50, Nonce: 1, Limit: 99, To: api.Contracts + 1, Text: "add", Args: []int{4, 5}}
	v := api.Vote{Height: 1, Round: 2, Stage: api.Second, Has: true, Block: 7, From: 3}
	w := v
	w.Block = 8
	b := api.Block{Header: header(1), Txs: []api.Tx{pay, call}, Guilts: []api.Guilt{{A: v, B: w}}}
	c := api.Cert{Height: 1, Round: 1, Stage: api.First, Has: true, Block: 7, Froms: []int{1, 2, 4}}
	return []api.Record{
		{Kind: api.Voted, Vote: v},
		{Kind: api.Moved, Motion: api.Motion{Round: 2, From: 1, Block: b, Basis: []api.Cert{c}}},
		{Kind: api.Locked, Known: api.Known{Cert: c, Block: b}},
		{Kind: api.Closed, Known: api.Known{Cert: c, Block: b}},
	}
}

// written is what PutRecord gives of a record.
func written(t *testing.T, x api.Record) string {
	t.Helper()
	s, e := wire.PutRecord(x)
	if e != api.OK {
		t.Fatalf("PutRecord(%v): %d", x, e)
	}
	return s
}

// frameOf is a record's frame, told anew.
func frameOf(t *testing.T, x api.Record) string {
	t.Helper()
	s := written(t, x)
	n := len(s)
	return string([]byte{byte(n >> 24), byte(n >> 16), byte(n >> 8), byte(n)}) + wire.Eight(digest.Of(8, 0, s)) + s
}

func framesOf(t *testing.T, l []api.Record) string {
	t.Helper()
	s := ""
	for _, x := range l {
		s += frameOf(t, x)
	}
	return s
}

func appendAll(t *testing.T, log *wal.Log, l []api.Record) {
	t.Helper()
	for _, x := range l {
		if e := log.Append(x); e != api.OK {
			t.Fatalf("A2: Append(%v): %d", x, e)
		}
	}
}

func sameRecords(t *testing.T, a, b []api.Record) bool {
	t.Helper()
	return framesOf(t, a) == framesOf(t, b) && len(a) == len(b)
}

// shows asks whether a log has these bytes, of which so many are safe, and is up.
func shows(t *testing.T, what string, log *wal.Log, bytes string, safe int) {
	t.Helper()
	if s, n := log.Bytes(); s != bytes || n != safe || log.Down() {
		t.Errorf("%s: the bytes %x, %d of them safe, down: %v; not %x, %d of them safe, up", what, s, n, log.Down(), bytes, safe)
	}
}

// plays does calls, each with its answer and how the log is then behind a
// colon: an error's number, or, of begin, from whom the votes are; how many
// bytes there are, how many of them are safe, and `down`, if it is.
func plays(t *testing.T, promise, text string) {
	t.Helper()
	log := wal.New()
	for i, line := range strings.Split(text, "\n") {
		call, want, _ := strings.Cut(strings.TrimSpace(line), ":")
		if call == "" {
			continue
		}
		got := does(log, strings.Fields(call)) + " " + state(log)
		if got = strings.Join(strings.Fields(got), " "); got != strings.TrimSpace(want) {
			t.Fatalf("%s: line %d, %s: %s, not%s", promise, i, call, got, want)
		}
	}
}

func number(s string) int {
	n, e := strconv.Atoi(s)
	if e != nil {
		panic(e)
	}
	return n
}

func does(log *wal.Log, w []string) string {
	switch w[0] {
	case "append":
		return strconv.Itoa(int(log.Append(ballot(number(w[1])))))
	case "sync":
		return strconv.Itoa(int(log.Sync()))
	case "arm":
		log.Arm(number(w[1]), number(w[2]))
	case "die":
		log.Die(number(w[1]))
	case "begin":
		s := "votes"
		for _, x := range log.Begin() {
			s += " " + strconv.Itoa(x.Vote.From)
		}
		return s
	default:
		panic(w[0])
	}
	return ""
}

func state(log *wal.Log) string {
	b, n := log.Bytes()
	s := strconv.Itoa(len(b)) + " " + strconv.Itoa(n)
	if log.Down() {
		s += " down"
	}
	return s
}

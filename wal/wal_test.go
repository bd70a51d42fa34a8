package wal_test

import (
	"encoding/hex"
	"math"
	"strings"
	"testing"

	"assize/api"
	"assize/digest"
	"assize/wal"
	"assize/wire"
)

func TestNew(t *testing.T) {
	log := wal.New()
	shows(t, "A1: a new log", log, "", 0)
	if l := log.Begin(); len(l) > 0 {
		t.Errorf("A3: a new log has records: %v", l)
	}
	shows(t, "A3: a new log that has begun", log, "", 0)
}

func TestFrame(t *testing.T) {
	v := api.Vote{Height: 1, Stage: api.First, Has: true, Block: 7, From: 300}
	body := "\x01\x01" + "\x01\x01\x00\x01\x01\x01\x00\x00\x00\x00\x00\x00\x00\x07\x02\x01\x2c"
	want := "\x00\x00\x00\x13" + wire.Eight(digest.Of(8, api.TagLeaf, body)) + body
	log := wal.New()
	appendAll(t, log, []api.Record{{Kind: api.Voted, Vote: v}})
	shows(t, "A1: the frame of a vote", log, want, 0)
	appendAll(t, log, []api.Record{ballot(1)})
	// Its digest was worked out by hand, apart from the program.
	short, _ := hex.DecodeString("00000012" + "5b4136f6192a3051" + "010101010001010000000000000000000101")
	shows(t, "A1: two frames", log, want+string(short), 0)
}

// huge is a record that is longer than two bytes can tell.
func huge() api.Record {
	p := api.Proof{Leaf: true, Key: "k", Value: strings.Repeat("v", api.MaxValue)}
	for i := range api.MaxTurns {
		p.Turns = append(p.Turns, api.Turn{Pos: i})
	}
	b := api.Block{Header: header(1)}
	for i := range api.MaxTxs {
		b.Txs = append(b.Txs, api.Tx{Kind: api.Claim, From: 1, Nonce: i, Proofs: []api.Proof{p}})
	}
	return api.Record{Kind: api.Moved, Motion: api.Motion{From: 1, Block: b}}
}

func TestFramesOfAllKinds(t *testing.T) {
	all := append(kinds(), huge())
	if n := len(written(t, huge())); n < 1<<16 {
		t.Fatalf("the long record has %d bytes", n)
	}
	log := wal.New()
	appendAll(t, log, all)
	shows(t, "A1: all kinds", log, framesOf(t, all), 0)
	if e := log.Sync(); e != api.OK {
		t.Errorf("A2: Sync: %d", e)
	}
	shows(t, "A2: behind Sync", log, framesOf(t, all), len(framesOf(t, all)))
	if l := log.Begin(); !sameRecords(t, l, all) {
		t.Errorf("A3: of all kinds are left %v", l)
	}
	shows(t, "A3: all kinds", log, framesOf(t, all), len(framesOf(t, all)))
}

func TestAppendSaysWhatPutRecordSays(t *testing.T) {
	for _, x := range []struct {
		what string
		x    api.Record
		want api.Errno
	}{
		{"nothing", api.Record{}, api.ErrForm},
		{"a kind that is none", api.Record{Kind: api.Closed + 1}, api.ErrForm},
		{"nobody's vote", ballot(0), api.ErrForm},
		{"a vote of one below 0", ballot(-1), api.ErrLimit},
		{"a vote of one too great", ballot(api.MaxNumber + 1), api.ErrLimit},
		{"a kind that is too great", api.Record{Kind: math.MaxInt}, api.ErrLimit},
		{"a vote, and more", api.Record{Kind: api.Voted, Vote: ballot(1).Vote, Motion: api.Motion{From: 1}}, api.ErrForm},
		{"a motion with two bases", api.Record{Kind: api.Moved, Motion: api.Motion{From: 1, Basis: make([]api.Cert, 2)}}, api.ErrLimit},
	} {
		log := wal.New()
		appendAll(t, log, []api.Record{ballot(1)})
		log.Arm(2, 30)
		if e := log.Append(x.x); e != x.want {
			t.Errorf("A2: Append of %s: %d, not %d", x.what, e, x.want)
		}
		shows(t, "A2: behind an Append of "+x.what, log, frameOf(t, ballot(1)), 0)
		if e := log.Append(ballot(2)); e != api.OK {
			t.Errorf("A2: Append of %s is an act", x.what)
		}
		if e := log.Append(ballot(3)); e != api.ErrDown || !log.Down() {
			t.Errorf("A2: the second act behind %s says %d", x.what, e)
		}
		if e := log.Append(x.x); e != x.want {
			t.Errorf("A2: Append of %s to a log that is down: %d, not %d", x.what, e, x.want)
		}
	}
}

func TestActs(t *testing.T) {
	plays(t, "A2", `
		sync: 0 0 0
		append 1: 0 30 0
		append 2: 0 60 0
		sync: 0 60 60
		sync: 0 60 60
		append 3: 0 90 60
	`)
}

func TestDie(t *testing.T) {
	for _, x := range []struct{ keep, want string }{
		{"0", "60 60 down"},
		{"1", "61 61 down"},
		{"30", "90 90 down"},
		{"59", "119 119 down"},
		{"60", "120 120 down"},
		{"61", "120 120 down"},
		{"9223372036854775807", "120 120 down"},
		{"-1", "60 60 down"},
		{"-9223372036854775808", "60 60 down"},
	} {
		plays(t, "A2: Die, keep "+x.keep, `
			append 1: 0 30 0
			append 2: 0 60 0
			sync: 0 60 60
			append 3: 0 90 60
			append 4: 0 120 60
			die `+x.keep+`: `+x.want+`
			die 0: `+x.want+`
			append 5: 27 `+x.want+`
			sync: 27 `+x.want+`
		`)
		plays(t, "A2: Arm, keep "+x.keep, `
			append 1: 0 30 0
			append 2: 0 60 0
			sync: 0 60 60
			append 3: 0 90 60
			arm 1 `+x.keep+`: 90 60
			append 4: 27 `+x.want+`
			append 5: 27 `+x.want+`
			sync: 27 `+x.want+`
		`)
		plays(t, "A2: Arm at Sync, keep "+x.keep, `
			append 1: 0 30 0
			append 2: 0 60 0
			sync: 0 60 60
			append 3: 0 90 60
			append 4: 0 120 60
			arm 1 `+x.keep+`: 120 60
			sync: 27 `+x.want+`
		`)
	}
}

func TestArm(t *testing.T) {
	plays(t, "A2: the third act", `
		append 1: 0 30 0
		arm 3 10: 30 0
		append 2: 0 60 0
		append 0: 2 60 0
		append -1: 3 60 0
		sync: 0 60 60
		append 3: 27 70 70 down
	`)
	plays(t, "A2: a Sync counts where there is nothing to be made safe", `
		arm 2 0: 0 0
		sync: 0 0 0
		sync: 27 0 0 down
	`)
	plays(t, "A2: what was armed ahead is no more", `
		arm 1 0: 0 0
		arm 2 5: 0 0
		append 1: 0 30 0
		append 2: 27 5 5 down
	`)
	for _, n := range []string{"0", "-1", "-9223372036854775808"} {
		plays(t, "A2: armed at none", `
			arm 1 0: 0 0
			arm `+n+` 7: 0 0
			append 1: 0 30 0
			sync: 0 30 30
			append 2: 0 60 30
		`)
	}
	plays(t, "A2: armed at the last act of all", `
		arm 9223372036854775807 7: 0 0
		append 1: 0 30 0
		sync: 0 30 30
	`)
	plays(t, "A2: when it dies nothing is armed any more", `
		arm 2 0: 0 0
		append 1: 0 30 0
		die 30: 30 30 down
		begin: votes 1 30 30
		append 2: 0 60 30
		sync: 0 60 60
	`)
	plays(t, "A2: what is down does not die, and no act is done", `
		append 1: 0 30 0
		die 3: 3 3 down
		arm 2 7: 3 3 down
		append 2: 27 3 3 down
		sync: 27 3 3 down
		die 0: 3 3 down
		append 3: 27 3 3 down
		begin: votes 0 0
		append 4: 0 30 0
		append 5: 27 7 7 down
	`)
}

func TestBegin(t *testing.T) {
	plays(t, "A3: of one that is not down all is left, and safe", `
		append 1: 0 30 0
		sync: 0 30 30
		append 2: 0 60 30
		begin: votes 1 2 60 60
		begin: votes 1 2 60 60
		append 3: 0 90 60
		die 0: 60 60 down
		begin: votes 1 2 60 60
	`)
	plays(t, "A3: it dies, so nothing is armed any more", `
		arm 1 0: 0 0
		begin: votes 0 0
		append 1: 0 30 0
		sync: 0 30 30
	`)
	plays(t, "A3: what is torn goes, and what comes stands in its place", `
		append 1: 0 30 0
		append 2: 0 60 0
		die 59: 59 59 down
		begin: votes 1 30 30
		append 3: 0 60 30
		sync: 0 60 60
		die 0: 60 60 down
		begin: votes 1 3 60 60
	`)
	plays(t, "A3: a Sync at which it dies makes nothing safe", `
		append 1: 0 30 0
		arm 1 0: 30 0
		sync: 27 0 0 down
		begin: votes 0 0
		append 2: 0 30 0
		begin: votes 2 30 30
	`)
}

func TestBeginBehindEachByte(t *testing.T) {
	all := kinds()
	for size := range len(framesOf(t, all)) + 1 {
		log := wal.New()
		appendAll(t, log, all)
		log.Die(size)
		whole := 0
		for whole < len(all) && len(framesOf(t, all[:whole+1])) <= size {
			whole++
		}
		if l := log.Begin(); !sameRecords(t, l, all[:whole]) {
			t.Fatalf("A3: of %d bytes are left %v, not %v", size, l, all[:whole])
		}
		left := framesOf(t, all[:whole])
		shows(t, "A3: what was torn goes", log, left, len(left))
	}
}

func TestRecordsAreFresh(t *testing.T) {
	all := kinds()
	log := wal.New()
	appendAll(t, log, all)
	spoil(all)
	first := log.Begin()
	if !sameRecords(t, first, kinds()) {
		t.Errorf("P2: a log keeps what it was handed: %v", first)
	}
	spoil(first)
	if l := log.Begin(); !sameRecords(t, l, kinds()) {
		t.Errorf("P2: a log keeps what it hands out: %v", l)
	}
}

// spoil writes into the lists of what kinds made.
func spoil(l []api.Record) {
	l[1].Motion.Block.Txs[1].Args[0] = 9
	l[1].Motion.Basis[0].Froms[0] = 9
	l[2].Known.Block.Txs[0] = api.Tx{}
	l[3].Known.Cert.Froms[2] = 9
	l[3].Known.Block.Guilts[0] = api.Guilt{}
	l[0] = api.Record{}
}

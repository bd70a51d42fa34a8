package assize_test

import (
	"fmt"
	"testing"

	"assize/api"
	"assize/block"
)

// What each line does, by what is seen behind it.

func TestTransactions(t *testing.T) {
	// 1 leaves at the height 2: in epochs of 2 it is free from the height 6 on.
	behind(t, "Z1: bond, leave, free",
		"bond 3 0 0 16 7 at 1\nleave 1 0 1 16 2 at 2\ncalm 2\naccount 3 3\naccount 3 1\nfree 1 1 0 16 at 1\ncalm 2\naccount 2 1\ncalm 2\nfree 1 2 0 16 at 4\ncalm 2\naccount 2 1\n",
		ok(3)+"account 3 balance 493 foreign 0 nonce 1 bond 9 leaving 0 jailed 0\n"+
			"account 1 balance 484 foreign 0 nonce 1 bond 0 leaving 2 jailed 0\n"+
			ok(2)+"account 1 balance 484 foreign 0 nonce 2 bond 0 leaving 2 jailed 0\n"+
			ok(3)+"account 1 balance 486 foreign 0 nonce 3 bond 0 leaving 0 jailed 0\n")
	// The fields, in order: all of them are unlike.
	behind(t, "Z1: pay", "pay 50 0 5 17 61 33 at 3\nlook 3\nlook 2\ncalm 2\naccount 1 50\naccount 1 61\naccount 1 2\n",
		"ok\nnode 3 height 0 round 0 step 0 waiting 1 guilts 0\nnode 2 height 0 round 0 step 0 waiting 0 guilts 0\n"+
			"ok\naccount 50 balance 8887 foreign 0 nonce 1 bond 0 leaving 0 jailed 0\n"+
			"account 61 balance 33 foreign 0 nonce 0 bond 0 leaving 0 jailed 0\n"+
			"account 2 balance 580 foreign 0 nonce 0 bond 2 leaving 0 jailed 0\n")
	behind(t, "Z1: what Submit says",
		"pay 50 0 3 16 0 25 at 1\npay 0 0 3 16 60 25 at 1\npay 50 0 3 16 60 25 at 9\npay 50 0 3 16 60 25 at 0\npay 50 0 3 65537 60 25 at 1\npay 50 0 9000 16 60 25 at 1\n"+
			"pay 50 0 3 16 60 25 at 1\npay 50 0 3 16 60 25 at 1\npay 50 0 3 16 60 26 at 1\nstop 2 0 0\nbond 50 0 3 16 2 at 2\nleave 50 0 3 16 2 at 2\nfree 50 0 3 16 at 2\nfree 0 0 3 16 at 2\n",
		"error 2\nerror 2\nerror 17\nerror 17\nerror 16\nerror 15\nok\nerror 31\nerror 22\nok\nerror 27\nerror 27\nerror 27\nerror 2\n")
	behind(t, "Z1: Amounts", "leave 1 0 0 16 3 at 1\nleave 2 0 0 16 1 at 1\nbond 3 0 0 16 499 at 1\nbond 4 0 0 16 500 at 1\ncalm 2\naccount 1 1\naccount 1 2\naccount 1 3\naccount 1 4\n",
		ok(5)+"account 1 balance 500 foreign 0 nonce 1 bond 2 leaving 0 jailed 0\n"+
			"account 2 balance 500 foreign 0 nonce 1 bond 1 leaving 1 jailed 0\n"+
			"account 3 balance 1 foreign 0 nonce 1 bond 501 leaving 0 jailed 0\n"+
			"account 4 balance 0 foreign 0 nonce 1 bond 501 leaving 0 jailed 0\n")
}

func TestTheNet(t *testing.T) {
	behind(t, "Z1: deliver, drop, double",
		"drop 0\nway\ndouble 1\nway\ndouble -1\nway\ndeliver -1\nway\nlook 2\nlook 3\nlook 4\ndrop 1099511627775\ndrop -1099511627775\ndrop 5\nway\n",
		// To 2, 3, 4 it goes at first; 2 hears nothing of it, and 4 hears what was doubled.
		"ok\nway 2\nok\nway 3\nok\nway 4\nok\nway 6\n"+
			"node 2 height 0 round 0 step 0 waiting 0 guilts 0\nnode 3 height 0 round 0 step 0 waiting 0 guilts 0\nnode 4 height 0 round 0 step 1 waiting 0 guilts 0\n"+
			"ok\nok\nok\nway 3\n")
	behind(t, "Z1: nothing is on its way", "drop 0\ndrop 0\ndrop 0\ndrop 0\ndeliver 0\ndouble -1\nway\n", "ok\nok\nok\nerror 30\nerror 30\nerror 30\nway 0\n")
	behind(t, "Z1: tick", "tick 2\nway\ntick 0\nway\ntick 9\ntick 50\nstop 1 0 0\ntick 1\nway\n", "ok\nway 6\nok\nway 18\nerror 17\nerror 17\nok\nok\nway 18\n")
	behind(t, "Z1: calm", "calm 0\nlook 1\ncalm 1\nway\ncalm 1099511627775\nshow 1 200\n",
		"ok\nnode 1 height 0 round 0 step 1 waiting 0 guilts 0\nok\nway 0\nok\nbelieves 0\nerror 20\n")
}

func TestStopsAndBegins(t *testing.T) {
	behind(t, "Z1: stop, begin", "begin 2\nbegin 9\nstop 9 0 0\nstop 2 0 5\nstop 2 0 0\nbegin 2\nbegin 2\nlook 2\n",
		"error 26\nerror 17\nerror 17\nok\nerror 27\nok\nerror 26\nnode 2 height 0 round 0 step 0 waiting 0 guilts 0\n")
	// At its second act from now on the log of 2 dies: that is when it votes for what 1 moved.
	behind(t, "Z1: a log that is armed", "stop 2 2 0\nlook 2\nway\ndeliver 0\nlook 2\nway\nbegin 2\nlook 2\n",
		"ok\nnode 2 height 0 round 0 step 0 waiting 0 guilts 0\nway 3\nok\nerror 27\nway 2\nok\nnode 2 height 0 round 0 step 0 waiting 0 guilts 0\n")
	// Of what is not safe the whole record is kept: it has voted, though nobody heard of it.
	behind(t, "Z1: a log of which all is kept", "stop 2 2 1000\ndeliver 0\nlook 2\nbegin 2\nlook 2\n",
		"ok\nok\nerror 27\nok\nnode 2 height 0 round 0 step 1 waiting 0 guilts 0\n")
}

func TestLies(t *testing.T) {
	behind(t, "Z1: who may not lie", "vote 4 0 1 0 1 7\nvote 50 0 1 0 1 7\ntwice 1 0 1 0 1\nvote 0 0 1 0 1 7\nvote 4 0 1 0 3 7\nvote 4 0 1 0 0 none\ntwice 4 0 1 0 3\nway\n",
		"error 17\nerror 17\nerror 17\nerror 2\nerror 2\nerror 2\nerror 2\nway 3\n")
	behind(t, "Z1: to whom it goes", "liar 4\nvote 4 0 1 0 1 7\nway\nvote 4 2 1 0 1 7\nway\nvote 4 4 1 0 1 7\nway\nvote 4 50 1 0 1 7\nway\ntwice 4 3 1 0 1\nway\n",
		"ok\nok\nway 6\nok\nway 7\nok\nway 7\nok\nway 7\nok\nway 8\n")
	// Both votes come in one message; together with another vote there they prove the guilt too.
	behind(t, "Z1: twice", "liar 4\ndrop 0\ndrop 0\ndrop 0\ntwice 4 1 1 0 1\nway\ndeliver 0\nlook 1\n",
		"ok\nok\nok\nok\nok\nway 1\nok\nnode 1 height 0 round 0 step 1 waiting 0 guilts 1\n")
	one := "liar 4\ndrop 0\ndrop 0\ndrop 0\ntwice 4 1 1 2 1\ndeliver 0\n"
	for vote, guilts := range map[string]string{
		"vote 4 1 1 2 1 1": "0", "vote 4 1 1 2 1 2": "1", "vote 4 1 1 2 1 none": "1", "vote 4 1 1 2 1 0": "1",
		"vote 4 1 1 3 1 2": "0", "vote 4 1 1 2 2 2": "0", "vote 4 1 2 2 1 2": "0",
	} {
		// With vote in the place of twice, for the block 1.
		behind(t, "Z1: "+vote, "liar 4\ndrop 0\ndrop 0\ndrop 0\nvote 4 1 1 2 1 1\ndeliver 0\n"+vote+"\ndeliver 0\nlook 1\n",
			ok(8)+"node 1 height 0 round 0 step 1 waiting 0 guilts "+guilts+"\n")
		// The blocks of twice are 1 and 2: so one is proved guilty by it already.
		behind(t, "Z1: twice, then "+vote, one+vote+"\ndeliver 0\nlook 1\n", ok(8)+"node 1 height 0 round 0 step 1 waiting 0 guilts 1\n")
	}
	// A vote at a height that is final is answered by the block.
	behind(t, "Z1: the height of a message", "liar 4\ncalm 2\nvote 4 1 2 0 1 7\nway\ndeliver 0\nway\nvote 4 1 3 0 1 7\ndeliver 0\nway\ntwice 4 1 1 0 1\ndeliver 0\nway\n",
		ok(3)+"way 1\nok\nway 1\nok\nok\nway 1\nok\nok\nway 1\n")
}

func TestLooksAndShows(t *testing.T) {
	behind(t, "Z1: what Node says", "look 9\nlook 0\nlook 50\naccount 9 1\naccount 50 50\nshow 9\nshow 9 1 2\nshow 0 1\nstop 1 0 0\nlook 1\naccount 1 50\nshow 1\nshow 1 1 2\n",
		"error 17\nerror 17\nerror 17\nerror 17\nerror 17\nerror 17\nerror 17\nerror 17\nok\nerror 27\nerror 27\nerror 27\nerror 27\n")
	behind(t, "Z1: show", "show 1\nshow 1 1\ncalm 4\nshow 1\nshow 2 0\nshow 2 2 2 1 3 4\nshow 3 4 3\nshow 4 1 3 2 4 5 6 1099511627775\n",
		"believes 0\nbelieves 0\nok\nbelieves 0\nbelieves 0\n"+
			"believes 4\nok\nerror 19\nerror 19\nok\nok\n"+
			"believes 0\nerror 20\nerror 20\n"+
			"believes 4\nok\nerror 20\nok\nok\n")
	behind(t, "Z1: account", "account 1 0\naccount 1 1\naccount 1 99\naccount 1 1099511627775\naccount 4 50\n",
		"account 0 balance 0 foreign 0 nonce 0 bond 0 leaving 0 jailed 0\n"+
			"account 1 balance 500 foreign 0 nonce 0 bond 2 leaving 0 jailed 0\n"+
			"account 99 balance 0 foreign 0 nonce 0 bond 0 leaving 0 jailed 0\n"+
			"account 1099511627775 balance 0 foreign 0 nonce 0 bond 0 leaving 0 jailed 0\n"+
			"account 50 balance 9000 foreign 0 nonce 0 bond 0 leaving 0 jailed 0\n")
	// An account is told by the last tip of that node: 2 is behind.
	behind(t, "Z1: account, of a node that is behind", "pay 50 0 0 16 60 9 at 1\nstop 2 0 0\ncalm 20\nbegin 2\naccount 2 60\naccount 1 60\n",
		ok(4)+"account 60 balance 0 foreign 0 nonce 0 bond 0 leaving 0 jailed 0\naccount 60 balance 9 foreign 0 nonce 0 bond 0 leaving 0 jailed 0\n")
}

func TestNamesHaveSixteenDigits(t *testing.T) {
	for w := 1; w <= 8; w++ {
		g := api.Genesis{Chain: 1, Width: w, Epoch: 2, Gas: 900, Starts: []api.Start{{Who: 1, Balance: 500, Bond: 2}}}
		tip, _ := block.Begin(g)
		b, e := tip.Make(1, nil, nil)
		if e != api.OK {
			t.Fatalf("Make: %d", e)
		}
		// One alone needs nobody to decide.
		answers(t, "Z1: a Name", fmt.Sprintf("ledger 1 %d 2 900\nstart 1 500 2\nlook 1\n", w),
			fmt.Sprintf("ok\nok\nnode 1 height 1 round -1 step 0 waiting 0 guilts 0\n1 %016x 0\n", uint64(tip.Name(b.Header))))
	}
}

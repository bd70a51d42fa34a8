package court_test

import (
	"testing"
)

func TestOneWhoLooksOn(t *testing.T) {
	for _, self := range []string{"9", "0", "-1"} {
		plays(t, "R1", `
			new `+self+`
			locked:
			done:
			says:
			begin: @0.0
			motion 0 A1: @0.1
			vote 0 1 A1 1: @0.1
			vote 0 1 A1 2: @0.1
			vote 0 1 A1 3: locked(0 1 A1 123) @0.2
			locked: known(0 1 A1 123)
			vote 0 2 A1 4: @0.2
			vote 0 2 A1 2: @0.2
			vote 0 2 A1 1: closed(0 2 A1 124) @0.2
			done: known(0 2 A1 124)
		`)
	}
	plays(t, "R1: time passes for one who looks on, too", `
		new 0
		begin: @0.0
		ticks 3: @0.1
		vote 0 1 - 1: @0.1
		vote 0 1 A1 2: @0.1
		vote 0 1 A2 3: @0.1
		ticks 3: @0.2
		vote 0 2 - 1: @0.2
		vote 0 2 - 2: @0.2
		vote 0 2 - 3: @0.2
		ticks 3: @1.0
	`)
}

func TestARoundThatDecides(t *testing.T) {
	plays(t, "R1 to R5", `
		new 1
		fill A
		begin: moved(0 A1 1) voted(0 1 A1 1) @0.1
		vote 0 1 A1 3: @0.1
		vote 0 1 A1 2: locked(0 1 A1 123) voted(0 2 A1 1) @0.2
		vote 0 1 A1 4: @0.2
		locked: known(0 1 A1 123)
		vote 0 2 A1 4: @0.2
		done:
		vote 0 2 A1 3: closed(0 2 A1 134) @0.2
		done: known(0 2 A1 134)
	`)
}

func TestMotionsAreVotes(t *testing.T) {
	plays(t, "R2: a motion is counted, and proves guilt", `
		new 2
		begin: @0.0
		motion 0 A1: voted(0 1 A1 2) @0.1
		motion 0 A1: error 31 @0.1
		motion 0 B1: guilt(0 0 A1 1) (0 0 B1 1) error 23 @0.1
		vote 0 0 B1 1: guilt(0 0 A1 1) (0 0 B1 1) error 23 @0.1
		vote 0 0 A1 1: error 31 @0.1
		vote 0 0 A1 3: @0.1
		says: vote(0 0 A1 1) vote(0 0 A1 3) vote(0 1 A1 2) motion(0 A1 1)
	`)
	plays(t, "R2: of motions, too, a round is ahead", `
		new 1
		begin: moved(0 E1 1) voted(0 1 E1 1) @0.1
		motion 5 A2: @0.1
		motion 6 A3: voted(5 1 A2 1) @5.1
	`)
}

func TestWhoLeadsMoves(t *testing.T) {
	plays(t, "R3: what Fill said last", `
		new 1
		fill B
		fill A
		begin: moved(0 A1 1) voted(0 1 A1 1) @0.1
		says: vote(0 0 A1 1) vote(0 1 A1 1) motion(0 A1 1)
		fill C
		vote 4 1 - 2: @0.1
		vote 4 1 - 3: moved(4 C1 1) voted(4 1 C1 1) @4.1
		says: vote(4 0 C1 1) vote(4 1 C1 1) vote(4 1 - 2) vote(4 1 - 3) motion(4 C1 1)
	`)
	plays(t, "R3: its valid block, with its cert", `
		new 2
		fill C
		begin: @0.0
		motion 0 A1: voted(0 1 A1 2) @0.1
		vote 0 1 A1 1: @0.1
		vote 0 1 A1 4: locked(0 1 A1 124) voted(0 2 A1 2) @0.2
		vote 0 2 - 1: @0.2
		vote 0 2 - 3: @0.2
		ticks 2: @0.2
		ticks 1: moved(1 A1 2 on 0 124) voted(1 1 A1 2) @1.1
	`)
	plays(t, "R3: not, if a motion of this round is there", `
		new 2
		begin: @0.0
		motion 1 A2: @0.0
		vote 1 1 - 3: voted(1 1 A2 2) @1.1
	`)
	plays(t, "R3: not in a round of others", `
		new 3
		fill A
		begin: @0.0
		vote 1 1 - 4: @0.0
		vote 1 1 - 1: @1.0
		vote 2 1 - 4: @1.0
		vote 2 1 - 1: moved(2 A3 3) voted(2 1 A3 3) @2.1
	`)
	plays(t, "R3: its votes in its name by others do not keep it from moving", `
		new 2
		begin: @0.0
		vote 1 0 A2 2: @0.0
		vote 1 1 - 3: moved(1 E2 2) voted(1 1 E2 2) @1.1
		says: vote(1 0 A2 2) vote(1 1 E2 2) vote(1 1 - 3) motion(1 E2 2)
	`)
}

func TestVotesAreCastOnce(t *testing.T) {
	plays(t, "R4: what others say in its name is counted, but is not its vote", `
		new 2
		begin: @0.0
		vote 0 1 - 2: @0.0
		motion 0 A1: voted(0 1 A1 2) @0.1
		says: vote(0 0 A1 1) vote(0 1 - 2) motion(0 A1 1)
		vote 0 2 A1 2: @0.1
		vote 0 1 A1 1: @0.1
		vote 0 1 A1 3: @0.1
		vote 0 1 A1 4: locked(0 1 A1 134) voted(0 2 A1 2) @0.2
	`)
	plays(t, "R4: what was voted ahead of a fall stands", `
		new 2
		redo voted 0 2 - 2: @-1.0
		redo voted 0 1 - 2: @-1.0
		begin: @0.2
		motion 0 A1: @0.2
		vote 0 1 A1 1: @0.2
		vote 0 1 A1 3: @0.2
		vote 0 1 A1 4: @0.2
		locked:
		vote 1 1 - 3: @0.2
		vote 1 1 - 1: moved(1 A1 2 on 0 134) voted(1 1 A1 2) @1.1
	`)
	plays(t, "R4: at Moves, too", `
		new 1
		redo voted 0 0 A1 1: @-1.0
		begin: @0.0
		motion 0 B1: guilt(0 0 A1 1) (0 0 B1 1) error 23 @0.0
	`)
	plays(t, "R4: at First, too", `
		new 2
		redo voted 0 1 B1 2: @-1.0
		begin: @0.1
		motion 0 A1: @0.1
		ticks 9: @0.1
		vote 0 1 A1 1: @0.1
		vote 0 1 A1 3: @0.1
		vote 0 1 A1 4: locked(0 1 A1 134) voted(0 2 A1 2) @0.2
	`)
}

func TestClosed(t *testing.T) {
	plays(t, "R5.1: the block must be known", `
		new 2
		begin: @0.0
		vote 0 2 A1 1: @0.0
		vote 0 2 A1 3: @0.0
		vote 0 2 A1 4: @0.0
		done:
		motion 0 A1: closed(0 2 A1 134) @0.0
		says: known(0 2 A1 134)
	`)
	plays(t, "R5.1: ahead of all else, whatever the round", `
		new 2
		begin: @0.0
		motion 0 A1: voted(0 1 A1 2) @0.1
		vote 3 2 A1 3: @0.1
		vote 3 2 A1 4: @3.0
		vote 3 2 A1 1: closed(3 2 A1 134) @3.0
	`)
	plays(t, "R5.1: for none decides nothing", `
		new 2
		begin: @0.0
		vote 0 2 - 1: @0.0
		vote 0 2 - 3: @0.0
		vote 0 2 - 4: @0.0
		done:
	`)
	plays(t, "R5: nothing else happens any more; but what comes is looked at and counted", `
		new 2
		begin: @0.0
		known 0 2 A1 134: closed(0 2 A1 134) @0.0
		motion 0 A1: @0.0
		motion 0 B1: guilt(0 0 A1 1) (0 0 B1 1) error 23 @0.0
		ticks 9: @0.0
		vote 0 1 A1 1: @0.0
		vote 0 1 A1 1: error 31 @0.0
		vote 0 1 - 1: guilt(0 1 A1 1) (0 1 - 1) error 23 @0.0
		vote 17 1 - 1: error 20 @0.0
		known 0 2 A1 1234: @0.0
		known 0 2 A1 12: error 18 @0.0
		known 5 1 B1 134: @0.0
		begin: @0.0
		done: known(0 2 A1 134)
		says: known(0 2 A1 134)
		locked:
	`)
}

func TestARoundThatIsAhead(t *testing.T) {
	plays(t, "R5.2", `
		new 4
		begin: @0.0
		vote 3 1 - 1: @0.0
		vote 3 2 - 1: @0.0
		vote 2 1 - 2: @2.0
		vote 2 1 - 1: @2.0
		vote 3 1 - 2: moved(3 E4 4) voted(3 1 E4 4) @3.1
		vote 9 1 - 3: @3.1
		vote 9 1 - 1: @9.0
		ticks 11: @9.0
		ticks 1: voted(9 1 - 4) voted(9 2 - 4) @9.2
	`)
	plays(t, "R5.2: ahead of what is valid in this round", `
		new 4
		begin: @0.0
		motion 0 A1: voted(0 1 A1 4) @0.1
		vote 0 1 A1 1: @0.1
		vote 2 1 - 3: @0.1
		known 1 1 A1 123: locked(1 1 A1 123) voted(1 2 A1 4) @1.2
	`)
}

func TestValidAndHeld(t *testing.T) {
	plays(t, "R5.3: in step 0, too", `
		new 4
		begin: @0.0
		known 0 1 A1 123: locked(0 1 A1 123) voted(0 2 A1 4) @0.2
		ticks 9: @0.2
	`)
	plays(t, "R5.3: in step 2 it is valid, but not held on to", `
		new 2
		begin: @0.0
		motion 0 A1: voted(0 1 A1 2) @0.1
		vote 0 1 - 1: @0.1
		vote 0 1 A1 3: @0.1
		ticks 3: voted(0 2 - 2) @0.2
		vote 0 1 A1 4: @0.2
		locked:
		says: vote(0 0 A1 1) vote(0 1 - 1) vote(0 1 A1 2) vote(0 1 A1 3) vote(0 1 A1 4) vote(0 2 - 2) motion(0 A1 1) known(0 1 A1 234)
		vote 1 1 - 3: @0.2
		vote 1 1 - 4: moved(1 A1 2 on 0 234) voted(1 1 A1 2) @1.1
	`)
	plays(t, "R5.3: of an earlier round it is valid, but not held on to", `
		new 4
		begin: @0.0
		vote 1 1 - 3: @0.0
		vote 1 1 - 1: @1.0
		known 0 1 A1 123: @1.0
		locked:
		says: vote(0 1 A1 1) vote(0 1 A1 2) vote(0 1 A1 3) vote(1 1 - 1) vote(1 1 - 3) known(0 1 A1 123)
	`)
	plays(t, "R5.3: a later one takes its place; what is held on to stays", `
		new 4
		begin: @0.0
		known 0 1 A1 123: locked(0 1 A1 123) voted(0 2 A1 4) @0.2
		vote 2 2 - 3: @0.2
		vote 2 2 - 1: @2.0
		known 1 1 B2 123: @2.0
		locked: known(0 1 A1 123)
		says: vote(1 1 B2 1) vote(1 1 B2 2) vote(1 1 B2 3) vote(2 2 - 1) vote(2 2 - 3) known(1 1 B2 123)
		known 0 1 A1 1234: @2.0
		vote 3 2 - 3: @2.0
		vote 3 2 - 1: moved(3 B2 4 on 1 123) voted(3 1 B2 4) @3.1
	`)
	plays(t, "R5.3: the block must be known; an earlier one that is known is not the best", `
		new 4
		begin: @0.0
		vote 2 1 B2 1: @0.0
		vote 1 1 A1 1: @0.0
		vote 1 1 A1 2: @1.0
		vote 1 1 A1 3: @1.0
		vote 2 1 B2 2: @2.0
		vote 2 1 B2 3: @2.0
		motion 0 A1: @2.0
		motion 1 B2: locked(2 1 B2 123) voted(2 2 B2 4) @2.2
	`)
}

func TestVotesOnMotions(t *testing.T) {
	held := `
		new 4
		begin: @0.0
		known 0 1 A1 123: locked(0 1 A1 123) voted(0 2 A1 4) @0.2
	`
	plays(t, "R5.4: another block than the one that it holds on to", held+`
		vote 1 2 - 1: @0.2
		vote 1 2 - 3: @1.0
		motion 1 B2: voted(1 1 - 4) @1.1
	`)
	plays(t, "R5.4: the block that it holds on to, without a basis", held+`
		vote 4 1 - 2: @0.2
		vote 4 1 - 3: @4.0
		motion 4 A1: voted(4 1 A1 4) @4.1
	`)
	plays(t, "R5.4: a basis of a later round", held+`
		vote 2 2 - 1: @0.2
		vote 2 2 - 3: @2.0
		motion 2 B2 on 1 123: voted(2 1 B2 4) @2.1
		locked: known(0 1 A1 123)
	`)
	plays(t, "R5.4: a basis of the same round", held+`
		vote 2 2 - 1: @0.2
		vote 2 2 - 3: @2.0
		motion 2 B2 on 0 123: voted(2 1 B2 4) @2.1
	`)
	plays(t, "R5.4: a basis of an earlier round", `
		new 4
		begin: @0.0
		vote 1 2 - 1: @0.0
		vote 1 2 - 3: @1.0
		known 1 1 A1 123: locked(1 1 A1 123) voted(1 2 A1 4) @1.2
		vote 2 2 - 1: @1.2
		vote 2 2 - 2: @2.0
		motion 2 B2 on 0 123: voted(2 1 - 4) @2.1
	`)
	plays(t, "R5.4: a motion that was there ahead of its round", `
		new 4
		begin: @0.0
		motion 2 A3: @0.0
		vote 2 1 A3 2: voted(2 1 A3 4) @2.1
	`)
	plays(t, "R5.4: not in step 1 or 2", `
		new 4
		begin: @0.0
		ticks 3: voted(0 1 - 4) @0.1
		motion 0 A1: @0.1
		vote 0 1 - 1: @0.1
		vote 0 1 - 2: voted(0 2 - 4) @0.2
	`)
	plays(t, "R5.4: a motion of which the vote was there already is not the round's", `
		new 4
		begin: @0.0
		vote 0 0 A1 1: @0.0
		motion 0 A1: error 31 @0.0
		vote 0 1 A1 1: @0.0
		vote 0 1 A1 2: @0.0
		vote 0 1 A1 3: locked(0 1 A1 123) voted(0 2 A1 4) @0.2
	`)
}

func TestVotesForNone(t *testing.T) {
	plays(t, "R5.5: in step 1 alone", `
		new 4
		begin: @0.0
		vote 0 1 - 1: @0.0
		vote 0 1 - 2: @0.0
		vote 0 1 - 3: @0.0
		motion 0 A1: voted(0 1 A1 4) voted(0 2 - 4) @0.2
	`)
	plays(t, "R5.5: of this round alone", `
		new 4
		begin: @0.0
		vote 1 1 - 1: @0.0
		vote 1 1 - 2: @1.0
		vote 0 1 - 1: @1.0
		vote 0 1 - 2: @1.0
		vote 0 1 - 3: @1.0
		motion 1 A2: voted(1 1 A2 4) @1.1
	`)
}

func TestTheClock(t *testing.T) {
	plays(t, "R5: in step 1 and 2 there is a clock once a quorum has voted, for whatever", `
		new 4
		begin: @0.0
		ticks 2: @0.0
		motion 0 A1: voted(0 1 A1 4) @0.1
		ticks 9: @0.1
		vote 0 1 - 1: @0.1
		ticks 9: @0.1
		vote 0 1 B1 2: @0.1
		ticks 2: @0.1
		vote 0 1 B1 3: @0.1
		ticks 1: voted(0 2 - 4) @0.2
		ticks 9: @0.2
		vote 0 2 - 2: @0.2
		ticks 9: @0.2
		vote 0 2 - 3: @0.2
		ticks 1: @0.2
		vote 0 2 B1 1: @0.2
		ticks 1: @0.2
		ticks 1: @1.0
		ticks 3: @1.0
		ticks 1: voted(1 1 - 4) @1.1
	`)
	plays(t, "R5: in a later round it has more", `
		new 4
		begin: @0.0
		vote 6 1 B1 1: @0.0
		vote 6 1 A1 2: @6.0
		vote 6 1 - 3: @6.0
		ticks 8: @6.0
		ticks 1: voted(6 1 - 4) @6.1
		ticks 8: @6.1
		ticks 1: voted(6 2 - 4) @6.2
		ticks 20: @6.2
		vote 6 2 - 1: @6.2
		vote 6 2 - 2: @6.2
		ticks 8: @6.2
		ticks 1: moved(7 E4 4) voted(7 1 E4 4) @7.1
	`)
	plays(t, "R5: votes of the other stage set no clock", `
		new 4
		begin: @0.0
		vote 0 2 - 1: @0.0
		vote 0 2 - 2: @0.0
		vote 0 2 - 3: @0.0
		motion 0 A1: voted(0 1 A1 4) @0.1
		ticks 9: @0.1
		vote 0 1 - 1: @0.1
		vote 0 1 - 2: @0.1
		ticks 3: voted(0 2 - 4) @0.2
		ticks 3: @1.0
	`)
	plays(t, "R6: without a clock, or ahead of Begin, nothing", `
		new 4
		ticks 9: @-1.0
		begin: @0.0
		ticks 3: voted(0 1 - 4) @0.1
		ticks 99: @0.1
	`)
	plays(t, "R6: behind the next round's beginning, too, what follows is done", `
		new 4
		begin: @0.0
		motion 1 A2: @0.0
		ticks 3: voted(0 1 - 4) @0.1
		vote 0 1 - 1: @0.1
		vote 0 1 - 2: voted(0 2 - 4) @0.2
		vote 0 2 - 1: @0.2
		vote 0 2 - 2: @0.2
		ticks 3: voted(1 1 A2 4) @1.1
	`)
}

func TestRedo(t *testing.T) {
	plays(t, "R8: nothing", `
		new 4
		begin: @0.0
		says:
	`)
	plays(t, "R8: the greatest round of which something was voted", `
		new 4
		redo voted 2 1 A3 4: @-1.0
		redo voted 5 1 B1 4: @-1.0
		redo voted 3 2 - 4: @-1.0
		says: vote(2 1 A3 4) vote(3 2 - 4) vote(5 1 B1 4)
		begin: @5.1
		says: vote(5 1 B1 4)
		ticks 99: @5.1
	`)
	plays(t, "R8: of others' nothing", `
		new 4
		redo voted 2 1 A3 3: @-1.0
		redo moved 2 A3 3: @-1.0
		redo closed 0 A1 123: @-1.0
		begin: @0.0
		says:
		done:
	`)
	plays(t, "R8: a motion is there, but it is not counted", `
		new 4
		fill B
		redo moved 3 A4 4: @-1.0
		says:
		begin: voted(3 1 A4 4) @3.1
		says: vote(3 1 A4 4) motion(3 A4 4)
		motion 3 A4: @3.1
		motion 3 A4: error 31 @3.1
	`)
	plays(t, "R8: a motion's block is known", `
		new 4
		redo moved 3 A4 4: @-1.0
		redo voted 3 1 A4 4: @-1.0
		begin: @3.1
		vote 3 2 A4 1: @3.1
		vote 3 2 A4 2: @3.1
		vote 3 2 A4 3: closed(3 2 A4 123) @3.1
	`)
	plays(t, "R8: who voted, but whose motion was not recorded, moves", `
		new 4
		redo voted 3 1 A4 4: @-1.0
		begin: moved(3 E4 4) @3.1
		says: vote(3 0 E4 4) vote(3 1 A4 4) motion(3 E4 4)
	`)
	plays(t, "R8: who moved in an earlier round moves in a later one", `
		new 4
		redo moved 3 A4 4: @-1.0
		redo voted 7 2 - 4: @-1.0
		fill C
		begin: moved(7 C4 4) @7.2
	`)
	plays(t, "R8: what it holds on to is valid, too, and known", `
		new 4
		redo locked 1 A1 123: @-1.0
		locked: known(1 1 A1 123)
		says: known(1 1 A1 123)
		begin: @0.0
		motion 0 B1: voted(0 1 - 4) @0.1
		vote 3 1 - 1: @0.1
		vote 3 2 A1 3: moved(3 A1 4 on 1 123) voted(3 1 A1 4) @3.1
		vote 3 2 A1 1: @3.1
		vote 3 2 A1 2: closed(3 2 A1 123) @3.1
	`)
	plays(t, "R8: the last that it held on to", `
		new 4
		redo locked 1 A1 123: @-1.0
		redo locked 2 B2 124: @-1.0
		locked: known(2 1 B2 124)
		begin: @0.0
		known 1 1 A1 134: @1.0
		locked: known(2 1 B2 124)
	`)
	plays(t, "R8: held on to in this round already, but not voted for", `
		new 4
		redo voted 0 1 A1 4: @-1.0
		redo locked 0 A1 124: @-1.0
		begin: @0.1
		known 0 1 A1 124: @0.1
		ticks 3: voted(0 2 - 4) @0.2
	`)
	plays(t, "R8: with both votes", `
		new 4
		redo voted 0 1 A1 4: @-1.0
		redo locked 0 A1 124: @-1.0
		redo voted 0 2 A1 4: @-1.0
		begin: @0.2
		says: vote(0 1 A1 4) vote(0 2 A1 4) known(0 1 A1 124)
		vote 0 2 A1 1: @0.2
		vote 0 2 A1 2: closed(0 2 A1 124) @0.2
	`)
	plays(t, "R8: what comes ahead of Begin is counted, and waits for it", `
		new 4
		vote 15 1 - 1: @-1.0
		vote 16 1 - 1: error 20 @-1.0
		motion 0 A1: @-1.0
		motion 16 A1: error 20 @-1.0
		known 0 1 A1 123: @-1.0
		says: vote(0 0 A1 1) vote(0 1 A1 1) vote(0 1 A1 2) vote(0 1 A1 3) vote(15 1 - 1)
		begin: locked(0 1 A1 123) voted(0 2 A1 4) @0.2
	`)
	plays(t, "R8: who is done ahead of Begin is done", `
		new 1
		known 0 2 A1 234: closed(0 2 A1 234) @-1.0
		done: known(0 2 A1 234)
		begin: @-1.0
		says: known(0 2 A1 234)
	`)
}

func TestSays(t *testing.T) {
	plays(t, "R9: votes of this round, the last one, and later ones", `
		new 4
		begin: @0.0
		vote 0 1 - 1: @0.0
		vote 1 1 - 1: @0.0
		vote 2 2 - 3: @1.0
		vote 2 1 A1 1: @2.0
		vote 5 1 B1 1: @2.0
		says: vote(1 1 - 1) vote(2 1 A1 1) vote(2 2 - 3) vote(5 1 B1 1)
		motion 1 B2: @2.0
		motion 6 B3: @5.0
		says: vote(5 1 B1 1) vote(6 0 B3 3)
	`)
}

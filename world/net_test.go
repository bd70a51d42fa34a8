package world_test

import (
	"fmt"
	"math"
	"slices"
	"testing"

	"assize/api"
	"assize/world"
)

func TestWhatIsSentAtTheBeginning(t *testing.T) {
	w := begun(t, six())
	tip := tipOf(t, six())
	b := made(t, tip, 1)
	for i, m := range way(t, w) {
		want := api.Message{From: 1, To: i + 2, Height: 1, Votes: []api.Vote{ballot(1, 0, tip.Name(b.Header))}, Motions: []api.Motion{{From: 1, Block: b}}}
		if !same(m, want) {
			t.Errorf("X2: %v is on its way, not %v", m, want)
		}
	}
	onWay(t, "X2: what is to all goes to each other one, rising", w, "1 2", "1 3", "1 4")
}

func TestOrderOnTheWay(t *testing.T) {
	w := begun(t, six())
	says(t, "X3: Tick", w.Tick(3), api.OK)
	onWay(t, "X2: what was sent later is behind", w, "1 2", "1 3", "1 4", "3 1", "3 2", "3 4")
	says(t, "X3: Tick", w.Tick(0), api.OK)
	onWay(t, "X3: all tick, in order", w, "1 2", "1 3", "1 4", "3 1", "3 2", "3 4",
		"1 2", "1 3", "1 4", "2 1", "2 3", "2 4", "3 1", "3 2", "3 4", "4 1", "4 2", "4 3")
	// The block of the height 1 is final at all but 4, which is told by each.
	w = begun(t, six())
	w.Stop(4, 0, 0)
	w.Calm(1)
	w.Begin(4)
	w.Tick(4)
	onWay(t, "X2: what 4 says", w, "4 1", "4 2", "4 3")
	w.Net(api.Deliver, 0)
	onWay(t, "X2: what is to one goes to that one", w, "4 2", "4 3", "1 4")
	if m, _ := w.Peek(2); len(m.Knowns) != 1 || m.Height != 1 {
		t.Errorf("X2: 4 is told %v", m)
	}
}

func TestSeveralMessagesOfOneThing(t *testing.T) {
	// With a tick of 2 a court begins, in which it moves and votes; then it says what it has.
	w := begun(t, six())
	w.Calm(1)
	w.Tick(2)
	onWay(t, "X2: both in their order", w, "2 1", "2 3", "2 4", "2 1", "2 3", "2 4")
	a, _ := w.Peek(0)
	b, _ := w.Peek(3)
	if len(a.Votes) != 1 || len(b.Votes) != 2 {
		t.Errorf("X2: the first one is %v, the second one %v", a, b)
	}
}

func TestRoomOnTheWay(t *testing.T) {
	w := begun(t, six())
	fill(t, w)
	says(t, "X3: Double", w.Net(api.Double, 5), api.OK)
	says(t, "X3: Tick", w.Tick(0), api.OK)
	if w.Way() != 4096 {
		t.Errorf("X2: %d are on their way", w.Way())
	}
	if m, _ := w.Peek(4095); m.From != 1 || m.To != 2 {
		t.Errorf("X2: what comes beyond is lost, but the last one is %v", m)
	}
	w.Net(api.Drop, 0)
	w.Net(api.Drop, 0)
	says(t, "X3: Tick", w.Tick(2), api.OK)
	if got := addressed(t, w); len(got) != 4096 || !slices.Equal(got[4093:], []string{"1 2", "2 1", "2 3"}) {
		t.Errorf("X2: %d are on their way, the last ones %q", len(got), got[4093:])
	}
}

func TestRoomForLies(t *testing.T) {
	w := begun(t, six(), 4)
	fill(t, w)
	w.Net(api.Drop, -1)
	says(t, "X5: Lie", w.Lie(api.Message{From: 4, Height: 7}), api.OK)
	if m, _ := w.Peek(4095); w.Way() != 4096 || m.To != 1 || m.Height != 7 {
		t.Errorf("X2: of %d the last one is %v", w.Way(), m)
	}
	says(t, "X5: Lie", w.Lie(api.Message{From: 4, To: 2, Height: 8}), api.OK)
	if m, _ := w.Peek(4095); w.Way() != 4096 || m.Height != 7 {
		t.Errorf("X2: of %d the last one is %v", w.Way(), m)
	}
}

func TestSubmitRefuses(t *testing.T) {
	wrong := pay(0)
	wrong.To = 0
	great := pay(0)
	great.Amount = top + 1
	poor := pay(0)
	poor.Price = 600
	w := begun(t, six())
	w.Stop(3, 0, 0)
	for _, c := range []struct {
		what string
		who  int
		t    api.Tx
		want api.Errno
	}{
		{"one that may not be", 1, wrong, api.ErrForm},
		{"too great a number", 1, great, api.ErrLimit},
		{"nothing", 1, api.Tx{}, api.ErrForm},
		{"one that may not be, to nobody", 9, wrong, api.ErrForm},
		{"one that may not be, to one that is down", 3, great, api.ErrLimit},
		{"nobody", 0, pay(0), api.ErrSeat},
		{"one without a bond", 50, pay(0), api.ErrSeat},
		{"below 0", -1, pay(0), api.ErrSeat},
		{"the greatest", math.MaxInt, pay(0), api.ErrSeat},
		{"to nobody, by one who is poor", 9, poor, api.ErrSeat},
		{"one that is down", 3, pay(0), api.ErrDown},
		{"to one that is down, by one who is poor", 3, poor, api.ErrDown},
		{"what the node says", 1, poor, api.ErrFunds},
		{"a far nonce", 1, pay(16), api.ErrNonce},
		{"ordinary", 1, pay(0), api.OK},
		{"once more", 1, pay(0), api.ErrSaid},
		{"the next one", 1, pay(1), api.OK},
	} {
		says(t, "X2: Submit: "+c.what, w.Submit(c.who, c.t), c.want)
	}
	if got := up(t, w, 1).Waiting(); !same(got, []api.Tx{pay(0), pay(1)}) {
		t.Errorf("X2: %v wait", got)
	}
	if got := up(t, w, 2).Waiting(); len(got) != 0 || w.Way() != 3 {
		t.Errorf("X2: %v wait elsewhere, %d are on their way", got, w.Way())
	}
}

func TestNetRefuses(t *testing.T) {
	w := begun(t, six())
	for _, kind := range []int{0, 4, -1, math.MaxInt, math.MinInt} {
		says(t, "X3: Net of no kind", w.Net(kind, 0), api.ErrKind)
	}
	onWay(t, "X3: nothing happened", w, "1 2", "1 3", "1 4")
	at(t, "X3: nothing was taken", w, 2, 0, 0, 0)
	dropAll(w)
	for _, kind := range []int{api.Deliver, api.Drop, api.Double, 0, 4, math.MinInt} {
		for _, n := range []int{0, 1, -1, math.MaxInt, math.MinInt} {
			says(t, "X3: Net of nothing", w.Net(kind, n), api.ErrPlace)
			if m, e := w.Peek(n); e != api.ErrPlace || !same(m, api.Message{}) {
				t.Errorf("X6: Peek(%d) of nothing: %v %d", n, m, e)
			}
		}
	}
}

// Of the three that are on their way at the beginning, to 2, 3 and 4, each number is one.
func numbers() map[int]int {
	return map[int]int{
		0: 2, 1: 3, 2: 4, 3: 2, 4: 3, 5: 4, 3_000_001: 3, -1: 4, -2: 3, -3: 2, -4: 4, -6: 2, -7: 4,
		math.MaxInt: 2 + math.MaxInt%3, math.MinInt: 2 + (3+math.MinInt%3)%3,
	}
}

func TestNumbersGoRound(t *testing.T) {
	for n, to := range numbers() {
		w := begun(t, six())
		if m, e := w.Peek(n); e != api.OK || m.To != to {
			t.Errorf("X6: Peek(%d): %v %d, not to %d", n, m, e, to)
		}
		says(t, "X3: Double", w.Net(api.Double, n), api.OK)
		onWay(t, fmt.Sprintf("X3: Double of %d", n), w, "1 2", "1 3", "1 4", fmt.Sprint(1, to))
		if got := way(t, w); !same(got[to-2], got[3]) {
			t.Errorf("X3: %v was doubled as %v", got[to-2], got[3])
		}
	}
}

func TestDrop(t *testing.T) {
	for n, to := range numbers() {
		w := begun(t, six())
		says(t, "X3: Drop", w.Net(api.Drop, n), api.OK)
		onWay(t, fmt.Sprintf("X3: Drop of %d", n), w, slices.DeleteFunc([]string{"1 2", "1 3", "1 4"}, func(s string) bool {
			return s == fmt.Sprint(1, to)
		})...)
		for _, who := range []int{2, 3, 4} {
			at(t, "X3: Drop: nobody takes it", w, who, 0, 0, 0)
		}
	}
}

func TestDeliver(t *testing.T) {
	for n, to := range numbers() {
		w := begun(t, six())
		says(t, "X3: Deliver", w.Net(api.Deliver, n), api.OK)
		var want []string
		for _, who := range []int{2, 3, 4} {
			if who != to {
				want = append(want, fmt.Sprint(1, who))
				at(t, "X3: Deliver: others do not take it", w, who, 0, 0, 0)
			}
		}
		at(t, "X3: Deliver: its node takes it", w, to, 0, 0, 1)
		for _, who := range []int{1, 2, 3, 4} {
			if who != to {
				want = append(want, fmt.Sprint(to, who))
			}
		}
		onWay(t, fmt.Sprintf("X3: Deliver of %d", n), w, want...)
	}
}

func TestDeliverToOneThatIsDown(t *testing.T) {
	w := begun(t, six())
	w.Stop(3, 0, 0)
	says(t, "X3: Deliver", w.Net(api.Deliver, 1), api.OK)
	onWay(t, "X3: Deliver: it is taken off", w, "1 2", "1 4")
	w.Begin(3)
	at(t, "X3: Deliver: nobody took it", w, 3, 0, 0, 0)
}

func TestDeliverInAFullNet(t *testing.T) {
	w := begun(t, six())
	fill(t, w)
	says(t, "X3: Deliver", w.Net(api.Deliver, 0), api.OK)
	// It was taken off first: so there is room for one of what 2 says.
	if m, _ := w.Peek(-1); w.Way() != 4096 || m.From != 2 || m.To != 1 {
		t.Errorf("X3: of %d the last one is %v", w.Way(), m)
	}
}

func TestTick(t *testing.T) {
	w := begun(t, six())
	dropAll(w)
	for _, who := range []int{5, 50, -1, math.MinInt, math.MaxInt, top} {
		says(t, "X3: Tick of nobody", w.Tick(who), api.ErrSeat)
	}
	onWay(t, "X3: nobody ticks", w)
	says(t, "X3: Tick", w.Tick(4), api.OK)
	onWay(t, "X3: one ticks", w, "4 1", "4 2", "4 3")
	dropAll(w)
	w.Stop(2, 0, 0)
	says(t, "X3: Tick of one that is down", w.Tick(2), api.OK)
	onWay(t, "X3: one that is down does not tick", w)
	says(t, "X3: Tick", w.Tick(0), api.OK)
	onWay(t, "X3: all that are up tick", w, "1 2", "1 3", "1 4", "3 1", "3 2", "3 4", "4 1", "4 2", "4 3")
	dropAll(w)
	w.Tick(3)
	at(t, "X3: the clock has three ticks", w, 3, 0, 0, 0)
	w.Tick(3)
	at(t, "X3: which are over", w, 3, 0, 0, 1)
	at(t, "X3: for 3 alone", w, 4, 0, 0, 0)
}

func TestANodeThatGoesDownOnItsOwn(t *testing.T) {
	// Its log dies within a Tick, a Take and in a calm.
	for what, does := range map[string]func(*world.World){
		"Tick":    func(w *world.World) { dropAll(w); w.Tick(2); w.Tick(2); w.Tick(2) },
		"Deliver": func(w *world.World) { w.Net(api.Deliver, 0) },
		"Calm":    func(w *world.World) { w.Calm(1) },
		"all":     func(w *world.World) { dropAll(w); w.Tick(0); w.Tick(0); w.Tick(0) },
	} {
		w := begun(t, six())
		says(t, "X4: Stop", w.Stop(2, 1, 0), api.OK)
		does(w)
		isDown(t, "X2: "+what, w, 2)
		says(t, "X2: Submit", w.Submit(2, pay(0)), api.ErrDown)
		says(t, "X4: Stop", w.Stop(2, 0, 0), api.ErrDown)
		says(t, "X3: Tick", w.Tick(2), api.OK)
		says(t, "X4: Begin", w.Begin(2), api.OK)
		up(t, w, 2)
	}
}

func TestWhatADyingNodeSentAhead(t *testing.T) {
	// By the motion of a message 2 votes; by the votes behind it, it would hold on to the block, but its log dies.
	w := begun(t, six(), 1, 3, 4)
	dropAll(w)
	tip := tipOf(t, six())
	b := made(t, tip, 1)
	says(t, "X4: Stop", w.Stop(2, 4, 0), api.OK)
	name := tip.Name(b.Header)
	says(t, "X5: Lie", w.Lie(api.Message{From: 4, To: 2, Height: 1, Motions: []api.Motion{{From: 1, Block: b}},
		Votes: []api.Vote{ballot(1, 0, name), ballot(3, 0, name), ballot(4, 0, name)}}), api.OK)
	says(t, "X3: Deliver", w.Net(api.Deliver, 0), api.OK)
	isDown(t, "X2", w, 2)
	onWay(t, "X2: what it sent ahead is on its way", w, "2 1", "2 3", "2 4")
	if got, _ := w.Peek(0); !same(got.Votes, []api.Vote{ballot(2, 0, name)}) {
		t.Errorf("X2: it sent %v", got)
	}
	says(t, "X4: Begin", w.Begin(2), api.OK)
	at(t, "X4: by what is safe", w, 2, 0, 0, 1)
}

func TestWhatIsTakenThroughTheNodeItself(t *testing.T) {
	// A node that is handed out is the world's own.
	w := begun(t, six())
	n := up(t, w, 2)
	if up(t, w, 2) != n {
		t.Error("X6: Node answers another node")
	}
	says(t, "X2: Submit", w.Submit(2, pay(0)), api.OK)
	if !same(n.Waiting(), []api.Tx{pay(0)}) || len(n.Out()) != 0 {
		t.Errorf("X6: %v wait", n.Waiting())
	}
	w.Stop(2, 1, 0)
	for range 3 {
		n.Tick()
	}
	isDown(t, "X6: one whose log died", w, 2)
	says(t, "X2: Submit", w.Submit(2, pay(1)), api.ErrDown)
	says(t, "X4: Begin", w.Begin(2), api.OK)
	if up(t, w, 2) == n {
		t.Error("X4: the node that died came again")
	}
}

package world_test

import (
	"math"
	"slices"
	"testing"

	"assize/api"
	"assize/block"
	"assize/state"
	"assize/world"
)

func TestWhatCanNotBegin(t *testing.T) {
	wrong := six()
	wrong.Epoch = 0
	nobody := six()
	for i := range nobody.Starts {
		nobody.Starts[i].Bond = 0
	}
	for _, c := range []struct {
		what  string
		g     api.Genesis
		liars []int
		want  api.Errno
	}{
		{"a genesis of nothing", api.Genesis{}, nil, api.ErrStart},
		{"no epoch", wrong, nil, api.ErrStart},
		{"no epoch, and no such liar", wrong, []int{99}, api.ErrStart},
		{"nobody has a bond", nobody, []int{1}, api.ErrStart},
		{"a liar without a bond", six(), []int{50}, api.ErrSeat},
		{"a liar who is no start", six(), []int{5}, api.ErrSeat},
		{"the second liar is no start", six(), []int{4, 5}, api.ErrSeat},
		{"the first liar is no start", six(), []int{5, 4}, api.ErrSeat},
		{"the liar 0", six(), []int{0}, api.ErrSeat},
		{"a liar below 0", six(), []int{-1}, api.ErrSeat},
		{"the least liar", six(), []int{math.MinInt}, api.ErrSeat},
		{"the greatest liar", six(), []int{math.MaxInt}, api.ErrSeat},
	} {
		if w, e := world.New(c.g, c.liars); w != nil || e != c.want {
			t.Errorf("X1: %s: %v %d, not %d", c.what, w, e, c.want)
		}
	}
}

func TestWhoKeepsANode(t *testing.T) {
	gaps := six()
	gaps.Starts = []api.Start{{Who: 2, Bond: 1}, {Who: 3, Balance: 9}, {Who: 7, Bond: 5}, {Who: api.Contracts - 1, Bond: 1}}
	var all []int
	for _, s := range sixteen().Starts {
		all = append(all, s.Who)
	}
	for _, c := range []struct {
		g           api.Genesis
		liars, want []int
	}{
		{six(), nil, []int{1, 2, 3, 4}},
		{six(), []int{4}, []int{1, 2, 3, 4}},
		{six(), []int{4, 1, 4, 3, 2}, []int{1, 2, 3, 4}},
		{gaps, nil, []int{2, 7, api.Contracts - 1}},
		{lone(), nil, []int{1}},
		{sixteen(), nil, all},
	} {
		w := begun(t, c.g, c.liars...)
		if got := w.Who(); !slices.Equal(got, c.want) {
			t.Errorf("X1: of %v there are %v, not %v", c.g, got, c.want)
		}
		for _, who := range c.want {
			up(t, w, who)
		}
		for _, who := range []int{0, -1, 3 + 50, top, math.MaxInt, math.MinInt} {
			if n, e := w.Node(who); n != nil || e != api.ErrSeat {
				t.Errorf("X6: Node(%d): %d", who, e)
			}
		}
	}
}

func TestEachHasALogOfItsOwn(t *testing.T) {
	w := begun(t, six())
	w.Calm(2)
	says(t, "X4: Stop", w.Stop(3, 0, 0), api.OK)
	for _, who := range []int{1, 2, 4} {
		up(t, w, who)
	}
	w.Calm(1)
	says(t, "X4: Begin", w.Begin(3), api.OK)
	at(t, "X4: by its log", w, 3, 2, 0, 0)
	at(t, "X4: the others went on", w, 2, 3, -1, 0)
}

func TestOneWhoIsAloneDecidesAtOnce(t *testing.T) {
	w := begun(t, lone())
	at(t, "X1: with its beginning", w, 1, 1, -1, 0)
	onWay(t, "X2: there is nobody else", w)
	w.Tick(0)
	at(t, "X3: with each tick", w, 1, 2, -1, 0)
}

func TestStopRefuses(t *testing.T) {
	w := begun(t, six())
	for _, who := range []int{0, 5, 50, -1, top, math.MinInt} {
		for _, n := range []int{0, 1} {
			says(t, "X4: Stop of nobody", w.Stop(who, n, 0), api.ErrSeat)
		}
		says(t, "X4: Begin of nobody", w.Begin(who), api.ErrSeat)
	}
	for _, who := range w.Who() {
		says(t, "X4: Begin of one that is up", w.Begin(who), api.ErrBusy)
	}
	at(t, "X4: nothing has begun anew", w, 1, 0, 0, 1)
	says(t, "X4: Stop", w.Stop(3, 0, 0), api.OK)
	for _, n := range []int{math.MinInt, -1, 0, 1, math.MaxInt} {
		says(t, "X4: Stop of one that is down", w.Stop(3, n, 0), api.ErrDown)
	}
	isDown(t, "X4", w, 3)
	says(t, "X4: Begin", w.Begin(3), api.OK)
	says(t, "X4: Begin of one that is up again", w.Begin(3), api.ErrBusy)
}

func TestStopNow(t *testing.T) {
	for _, n := range []int{0, -1, math.MinInt} {
		for _, keep := range []int{math.MinInt, -1, 0, 7, math.MaxInt} {
			w := begun(t, six())
			old := up(t, w, 1)
			says(t, "X4: Stop", w.Stop(1, n, keep), api.OK)
			isDown(t, "X4: it dies now", w, 1)
			for range 3 {
				old.Take(api.Message{From: 2, Height: 1, Votes: []api.Vote{ballot(2, 0, 1), ballot(3, 0, 1), ballot(4, 0, 1)}})
				old.Tick()
			}
			if !old.Down() {
				t.Error("X4: its log is up still")
			}
			if w.Way() != 3 {
				t.Errorf("X4: what it sent is on its way, but there are %d", w.Way())
			}
			says(t, "X4: Begin", w.Begin(1), api.OK)
			at(t, "X4: what it said is recorded", w, 1, 0, 0, 1)
			if w.Way() != 3 {
				t.Errorf("X4: it moves once, but there are %d", w.Way())
			}
		}
	}
}

func TestStopAtAnAct(t *testing.T) {
	// What 2 says of the motion is one act, that it is safe the second one.
	for _, c := range []struct{ n, keep, step int }{
		{1, 0, 0}, {1, -1, 0}, {1, 5, 0}, {1, 1000, 1}, {1, math.MaxInt, 1},
		{2, 0, 0}, {2, 5, 0}, {2, 1000, 1},
	} {
		w := begun(t, six())
		says(t, "X4: Stop", w.Stop(2, c.n, c.keep), api.OK)
		at(t, "X4: it is up still", w, 2, 0, 0, 0)
		says(t, "X3: Net", w.Net(api.Deliver, 0), api.OK)
		isDown(t, "X4: at its act", w, 2)
		onWay(t, "X2: nothing was sent", w, "1 3", "1 4")
		says(t, "X4: Begin", w.Begin(2), api.OK)
		at(t, "X4: what was kept", w, 2, 0, 0, c.step)
		onWay(t, "X2: nothing was sent yet", w, "1 3", "1 4")
	}
	w := begun(t, six())
	says(t, "X4: Stop", w.Stop(2, 3, 0), api.OK)
	w.Net(api.Deliver, 0)
	at(t, "X4: it outlives two acts", w, 2, 0, 0, 1)
	w.Net(api.Deliver, 0)
	w.Net(api.Deliver, 0)
	w.Calm(1)
	isDown(t, "X4: but not the third one", w, 2)
}

func TestStopAnew(t *testing.T) {
	w := begun(t, six())
	says(t, "X4: Stop", w.Stop(2, 1, 0), api.OK)
	says(t, "X4: Stop later", w.Stop(2, 50, 0), api.OK)
	w.Calm(1)
	at(t, "X4: what was armed ahead is no more", w, 2, 1, -1, 0)
	says(t, "X4: Stop now", w.Stop(2, 0, 0), api.OK)
	isDown(t, "X4", w, 2)
	w.Begin(2)
	for range 40 {
		w.Calm(1)
	}
	up(t, w, 2) // X4: with its death nothing was armed any more
}

func TestManyFalls(t *testing.T) {
	w := begun(t, six())
	for i := range 30 {
		who := w.Who()[i%4]
		says(t, "X4: Stop", w.Stop(who, 0, i), api.OK)
		says(t, "X4: Begin", w.Begin(who), api.OK)
		w.Calm(1)
	}
	for _, who := range w.Who() {
		if h, _, _ := up(t, w, who).Height(); h < 15 {
			t.Errorf("X4: with falls it does not go on: %s", look(t, w, who))
		}
	}
}

func TestCalm(t *testing.T) {
	// One who is alone has a block by its beginning, and one by each tick.
	for n, want := range map[int]int{
		math.MinInt: 1, -1: 1, 0: 1, 1: 2, 2: 3, 199: 200, 200: 201, 201: 201, 1000: 201, math.MaxInt: 201,
	} {
		w := begun(t, lone())
		w.Calm(n)
		if h, _, _ := up(t, w, 1).Height(); h != want {
			t.Errorf("X6: behind Calm(%d) the height is %d, not %d", n, h, want)
		}
	}
	w := begun(t, six())
	for i := range 5 {
		w.Calm(1)
		for _, who := range w.Who() {
			at(t, "X6: in a calm all that is sent comes", w, who, i+1, -1, 0)
		}
		if w.Way() != 0 {
			t.Errorf("X6: behind a calm %d are on their way", w.Way())
		}
	}
}

func TestCalmDeliversInOrder(t *testing.T) {
	calm, by := begun(t, six()), begun(t, six())
	for range 4 {
		calm.Calm(1)
		by.Tick(0)
		for by.Way() > 0 {
			by.Net(api.Deliver, 0)
		}
		if a, b := up(t, calm, 3), up(t, by, 3); lastTip(a).Header() != lastTip(b).Header() {
			t.Errorf("X6: Calm: %v, not %v", lastTip(a).Header(), lastTip(b).Header())
		}
	}
	for _, who := range calm.Who() {
		for h := range 5 {
			a, _ := up(t, calm, who).Final(h)
			b, _ := up(t, by, who).Final(h)
			if !same(a, b) {
				t.Errorf("X6: Calm: %v, not %v", a, b)
			}
		}
	}
}

func TestHonest(t *testing.T) {
	of := func(bonds ...int) api.Genesis {
		g := six()
		g.Starts = nil
		for i, b := range bonds {
			g.Starts = append(g.Starts, api.Start{Who: i + 1, Bond: b})
		}
		return g
	}
	for _, c := range []struct {
		g     api.Genesis
		liars []int
		want  bool
	}{
		{six(), nil, true},
		{six(), []int{4}, true},
		{six(), []int{1}, true},
		{six(), []int{1, 1}, true},
		{six(), []int{1, 4}, false},
		{six(), []int{1, 2, 3, 4}, false},
		{of(1, 1, 1), []int{2}, false}, // just a third
		{of(1, 1, 2), []int{2}, true},
		{of(10, 11, 10), []int{1}, true},
		{of(11, 11, 10), []int{1}, false},
		{of(1<<37, 1<<37, 1<<38), []int{1}, true},
		{of(1), []int{1}, false},
		{of(1), nil, true},
		{sixteen(), []int{80, 90, 100, 110, 120, 130, 140, 150, 160}, true}, // these have no seat
		{sixteen(), []int{10, 20}, true},
		{sixteen(), []int{10, 20, 30}, false},
	} {
		if got := begun(t, c.g, c.liars...).Honest(tipOf(t, c.g)); got != c.want {
			t.Errorf("X6: Honest of the liars %v, of %v: %v", c.liars, tipOf(t, c.g).Bench(), got)
		}
	}
	none, _ := block.Begin(api.Genesis{})
	if begun(t, six()).Honest(none) {
		t.Error("X6: nobody is less than a third of nobody")
	}
}

func TestHonestGoesByTheTip(t *testing.T) {
	w := begun(t, six(), 1, 4)
	if w.Honest(tipOf(t, six())) {
		t.Error("X6: 3 of 7 is a third and more")
	}
	says(t, "X2: Submit", w.Submit(2, api.Tx{Kind: api.Bond, From: 2, Limit: 16, Amount: 3}), api.OK)
	w.Calm(4)
	n := up(t, w, 3)
	for h, want := range []bool{false, false, true, true, true} {
		tip, _ := n.Tip(h)
		if got := w.Honest(tip); got != want {
			t.Errorf("X6: Honest behind the height %d, of %v: %v", h, tip.Bench(), got)
		}
	}
	says(t, "X5: Lie", w.Lie(api.Message{From: 1, Height: 5, Votes: []api.Vote{
		{Height: 5, Stage: api.First, Has: true, Block: 1, From: 1}, {Height: 5, Stage: api.First, Has: true, Block: 2, From: 1},
	}}), api.OK)
	w.Calm(8)
	tip := lastTip(up(t, w, 3))
	if !account(tip, 1).Jailed || !w.Honest(tip) {
		t.Errorf("X6: Honest of %v: %v", tip.Bench(), w.Honest(tip))
	}
}

func TestView(t *testing.T) {
	for _, g := range []api.Genesis{six(), lone(), sixteen()} {
		v, e := world.View(g)
		tip := tipOf(t, g)
		want := api.View{Chain: g.Chain, Width: g.Width, Epoch: g.Epoch, State: tip.Tree().Root(), Seats: tip.Bench()}
		if e != api.OK || !same(v, want) {
			t.Errorf("X7: View(%v): %v %d, not %v", g, v, e, want)
		}
	}
	wrong := six()
	wrong.Width = 9
	for _, g := range []api.Genesis{{}, wrong} {
		if v, e := world.View(g); e != api.ErrStart || !same(v, api.View{}) {
			t.Errorf("X7: View(%v): %v %d", g, v, e)
		}
	}
}

// shown is a world with four blocks; that of node 4 is two behind.
func shown(t *testing.T) *world.World {
	w := begun(t, six())
	w.Calm(2)
	w.Stop(4, 0, 0)
	w.Calm(2)
	w.Begin(4)
	return w
}

func TestShow(t *testing.T) {
	const far, low, ok = api.ErrFar, api.ErrHeight, api.OK
	w := shown(t)
	v, _ := world.View(six())
	for _, c := range []struct {
		who     int
		heights []int
		height  int
		want    []api.Errno
	}{
		{1, nil, 0, nil},
		{1, []int{1, 2, 3, 4}, 4, []api.Errno{ok, ok, ok, ok}},
		{2, []int{2, 4}, 4, []api.Errno{ok, ok}},
		{3, []int{1, 4, 2, 3}, 3, []api.Errno{ok, far, ok, ok}},
		{1, []int{3, 2, 2, 1, 3}, 3, []api.Errno{far, ok, low, low, ok}},
		{1, []int{0, -1, 5, math.MaxInt, math.MinInt}, 0, nil},
		{1, []int{0, 1, 5, 2, 9, 2}, 2, []api.Errno{ok, ok, low}},
		{4, []int{1, 2, 3, 4}, 2, []api.Errno{ok, ok}},
		{4, []int{3, 4}, 0, nil},
	} {
		got, l := w.Show(c.who, v, c.heights)
		if got.Height != c.height || !slices.Equal(l, c.want) {
			t.Errorf("X7: Show(%d, .., %v): the height %d, %v, not %d, %v", c.who, c.heights, got.Height, l, c.height, c.want)
		}
		tip, _ := up(t, w, 1).Tip(c.height)
		want := v
		want.Height, want.State, want.Seats = c.height, tip.Tree().Root(), tip.Bench()
		if !same(got, want) {
			t.Errorf("X7: Show(%d, .., %v): %v, not %v", c.who, c.heights, got, want)
		}
	}
}

func TestShowGoesOnFromWhatIsBelieved(t *testing.T) {
	w := shown(t)
	v, _ := world.View(six())
	v, _ = w.Show(1, v, []int{2})
	if got, l := w.Show(2, v, []int{1, 3}); got.Height != 3 || !slices.Equal(l, []api.Errno{api.ErrHeight, api.OK}) {
		t.Errorf("X7: Show from the height 2 on: %v, %v", got, l)
	}
	v.Chain = 2
	if got, l := w.Show(2, v, []int{3}); !same(got, v) || !slices.Equal(l, []api.Errno{api.ErrParent}) {
		t.Errorf("X7: Show of another ledger: %v, %v", got, l)
	}
	if got, l := w.Show(2, api.View{}, []int{1, 2}); !same(got, api.View{}) || !slices.Equal(l, []api.Errno{api.ErrForm, api.ErrForm}) {
		t.Errorf("X7: Show to one who believes what may not be: %v, %v", got, l)
	}
}

func TestShowOfANodeThatIsNotThere(t *testing.T) {
	w := shown(t)
	w.Stop(2, 0, 0)
	v, _ := world.View(six())
	wrong := api.View{Chain: -1, Height: 9, Seats: []api.Seat{{Who: -5}}}
	for who, want := range map[int]api.Errno{2: api.ErrDown, 0: api.ErrSeat, 50: api.ErrSeat, -1: api.ErrSeat, math.MaxInt: api.ErrSeat} {
		for _, x := range []api.View{v, wrong, {}} {
			for _, heights := range [][]int{nil, {1}, {1, 2, 3}} {
				if got, l := w.Show(who, x, heights); !same(got, x) || !slices.Equal(l, []api.Errno{want}) {
					t.Errorf("X7: Show(%d, %v, %v): %v, %v", who, x, heights, got, l)
				}
			}
		}
	}
}

func TestMoneyAcrossAWorld(t *testing.T) {
	w := begun(t, six(), 4)
	own, _ := state.Money(tipOf(t, six()).Tree())
	w.Submit(1, pay(0))
	w.Submit(3, api.Tx{Kind: api.Leave, From: 3, Price: 2, Limit: 16, Amount: 1})
	w.Lie(api.Message{From: 4, Height: 1, Votes: []api.Vote{ballot(4, 0, 1), ballot(4, 0, 2)}})
	w.Calm(8)
	for _, who := range w.Who() {
		n := up(t, w, who)
		height, _, _ := n.Height()
		for h := range height + 1 {
			tip, _ := n.Tip(h)
			if got, foreign := state.Money(tip.Tree()); got != own || foreign != 0 {
				t.Errorf("money is not kept: behind the height %d there is %d, not %d", h, got, own)
			}
		}
	}
}

package world_test

import (
	"fmt"
	"slices"
	"testing"

	"assize/api"
	"assize/world"
)

func TestSession7(t *testing.T) {
	w := begun(t, six())
	if w.Way() != 3 {
		t.Errorf("the document's example: way %d", w.Way())
	}
	looks(t, w, 1, "node 1 height 0 round 0 step 1 waiting 0 guilts 0")
}

func TestSession8(t *testing.T) {
	w := begun(t, six())
	says(t, "Submit", w.Submit(2, api.Tx{Kind: api.Pay, From: 50, Price: 3, Limit: 16, To: 60, Amount: 25}), api.OK)
	w.Calm(3)
	for _, who := range w.Who() {
		looks(t, w, who, fmt.Sprintf("node %d height 3 round -1 step 0 waiting 0 guilts 0, 1 aeefb404b013c5f1 0, 2 f952e1ee8fcd6a09 1, 3 fade83d694af1ada 0", who))
		if got, want := account(lastTip(up(t, w, who)), 50), (api.Account{Balance: 8927, Nonce: 1}); got != want {
			t.Errorf("the document's example: 50 has %v, not %v", got, want)
		}
	}
}

func TestSession9(t *testing.T) {
	w := begun(t, six(), 4)
	says(t, "Lie", w.Lie(api.Message{From: 4, Height: 1, Votes: []api.Vote{ballot(4, 0, 1), ballot(4, 0, 2)}}), api.OK)
	w.Calm(6)
	tip := lastTip(up(t, w, 1))
	if got, want := account(tip, 4), (api.Account{Balance: 500, Jailed: true}); got != want {
		t.Errorf("the document's example: 4 has %v, not %v", got, want)
	}
	if got, want := account(tip, api.Pot), (api.Account{Balance: 1}); got != want {
		t.Errorf("the document's example: the pot has %v, not %v", got, want)
	}
}

func TestSession10(t *testing.T) {
	w := begun(t, six())
	says(t, "Stop", w.Stop(2, 0, 0), api.OK)
	looks(t, w, 2, "error 27")
	w.Calm(2)
	says(t, "Begin", w.Begin(2), api.OK)
	looks(t, w, 2, "node 2 height 0 round 0 step 0 waiting 0 guilts 0")
	w.Calm(1)
	looks(t, w, 2, "node 2 height 1 round -1 step 0 waiting 0 guilts 0, 1 aeefb404b013c5f1 0")
}

func TestSessionsThatShow(t *testing.T) {
	for _, x := range []struct {
		heights []int
		height  int
		codes   []api.Errno
	}{
		{[]int{1, 2, 3, 4}, 3, []api.Errno{api.OK, api.OK, api.OK}},
		{[]int{1, 4}, 1, []api.Errno{api.OK}},
	} {
		w := begun(t, six())
		w.Calm(3)
		v, _ := world.View(six())
		if got, codes := w.Show(1, v, x.heights); got.Height != x.height || !slices.Equal(codes, x.codes) {
			t.Errorf("the document's example: shown %v it believes %v, by %v", x.heights, got, codes)
		}
	}
}

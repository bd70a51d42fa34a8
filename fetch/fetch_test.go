package fetch_test

import (
	"math"
	"slices"
	"strings"
	"testing"

	"assize/api"
	"assize/fetch"
	"assize/trie"
)

func TestTheBeginning(t *testing.T) {
	f := fetch.New(8, treeOf(t, 8, "a", "1", "b", "2").Root())
	for most, want := range map[int]int{math.MinInt: 0, -1: 0, 0: 0, 1: 1, 2: 1, math.MaxInt: 1} {
		if l := f.Wants(most); len(l) != want || want == 1 && l[0] != "" {
			t.Errorf("F1: Wants(%d) is %q", most, l)
		}
	}
	if l := f.Barred(); len(l) != 0 {
		t.Errorf("F3: at first %v are barred", l)
	}
	isNot(t, "at first", f, api.ErrBusy)
}

func TestTheDocumentsTree(t *testing.T) {
	tree := treeOf(t, 8, "a", "1", "b", "2")
	f := fetch.New(8, 0x043440836a3365a1)
	takes(t, f, 1, "", nodeAt(t, tree, ""))
	wants(t, "F2: behind the fork", f, "0", "1")
	takes(t, f, 1, "1", leaf("b", "2"))
	wants(t, "F2: behind a leaf", f, "0")
	isNot(t, "one is wanted", f, api.ErrBusy)
	takes(t, f, 2, "0", leaf("a", "1"))
	wants(t, "F2: behind both", f)
	is(t, "behind both", f, tree)

	f = fetch.New(8, 0x28c0a36619bf7849)
	takes(t, f, 1, "", api.Node{Kind: api.Bare})
	wants(t, "F2: behind an empty tree", f)
	is(t, "an empty tree", f, trie.New(8))
	refuses(t, "an empty tree once more", f, 1, "", api.Node{}, api.ErrPlace)

	f = fetch.New(8, treeOf(t, 8, "", "1").Root())
	takes(t, f, 1, "", leaf("", "1"))
	is(t, "one leaf", f, treeOf(t, 8, "", "1"))
}

// letters is a tree with a key for each of these letters.
func letters(t *testing.T, w int, l string) trie.Tree {
	t.Helper()
	var items []string
	for _, c := range l {
		items = append(items, string(c), "of "+string(c))
	}
	return treeOf(t, w, items...)
}

func TestWantsInOrder(t *testing.T) {
	tree := letters(t, 8, "@ABCDEFGHIJKLMNO") // of four bits that are unlike: all ways have four turns
	f := fetch.New(8, tree.Root())
	for _, x := range []struct {
		way  string
		want []string
	}{
		{"", []string{"0", "1"}},
		{"1", []string{"0", "10", "11"}},
		{"11", []string{"0", "10", "110", "111"}},
		{"0", []string{"00", "01", "10", "110", "111"}},
		{"01", []string{"00", "010", "011", "10", "110", "111"}},
		{"10", []string{"00", "010", "011", "100", "101", "110", "111"}},
		{"110", []string{"00", "010", "011", "100", "101", "1100", "1101", "111"}},
	} {
		takes(t, f, 1, x.way, nodeAt(t, tree, x.way))
		wants(t, "F1: behind "+x.way, f, x.want...)
		for most := range len(x.want) + 2 {
			if got, want := f.Wants(most), x.want[:min(most, len(x.want))]; !slices.Equal(got, want) {
				t.Errorf("F1: Wants(%d) is %q, not %q", most, got, want)
			}
		}
	}
	takes(t, f, 1, "1100", nodeAt(t, tree, "1100"))
	wants(t, "F1: behind a leaf", f, "00", "010", "011", "100", "101", "1101", "111")
	takes(t, f, 1, "1101", nodeAt(t, tree, "1101"))
	wants(t, "F1: behind both sides of a fork", f, "00", "010", "011", "100", "101", "111")
}

// Each of these is given where its own digest is wanted, so that nothing but what it is speaks against it.
func TestWhatMayBeNoNode(t *testing.T) {
	long, much := strings.Repeat("k", api.MaxKey+1), strings.Repeat("v", api.MaxValue+1)
	for what, n := range map[string]api.Node{
		"bare with a key":         {Kind: api.Bare, Key: "k"},
		"bare with a value":       {Kind: api.Bare, Value: "v"},
		"bare with a place":       {Kind: api.Bare, Pos: 1},
		"bare with a left":        {Kind: api.Bare, Left: 1},
		"bare with a right":       {Kind: api.Bare, Right: 1},
		"leaf without a value":    {Kind: api.Leaf, Key: "k"},
		"leaf of nothing":         {Kind: api.Leaf},
		"too long a key":          {Kind: api.Leaf, Key: long, Value: "v"},
		"too long a value":        {Kind: api.Leaf, Key: "k", Value: much},
		"leaf with a place":       {Kind: api.Leaf, Key: "k", Value: "v", Pos: 1},
		"leaf with a place below": {Kind: api.Leaf, Key: "k", Value: "v", Pos: -1},
		"leaf with a left":        {Kind: api.Leaf, Key: "k", Value: "v", Left: 1},
		"leaf with a right":       {Kind: api.Leaf, Key: "k", Value: "v", Right: 1},
		"fork with a key":         {Kind: api.Fork, Key: "k", Pos: 1, Left: 1, Right: 2},
		"fork with a value":       {Kind: api.Fork, Value: "v", Pos: 1, Left: 1, Right: 2},
		"fork below all places":   {Kind: api.Fork, Pos: -1, Left: 1, Right: 2},
		"fork far below":          {Kind: api.Fork, Pos: math.MinInt, Left: 1, Right: 2},
		"fork behind all places":  {Kind: api.Fork, Pos: 9 * api.MaxKey, Left: 1, Right: 2},
		"fork far behind":         {Kind: api.Fork, Pos: math.MaxInt, Left: 1, Right: 2},
		"a place that wraps":      {Kind: api.Fork, Pos: 1<<40 + 1, Left: 1, Right: 2},
		"another kind":            {Kind: 3, Key: "k", Value: "v"},
		"another kind, empty":     {Kind: 3},
		"a kind below":            {Kind: -1, Key: "k", Value: "v"},
		"a kind far off":          {Kind: math.MaxInt, Key: "k", Value: "v"},
	} {
		bars(t, what, fetch.New(8, topOf(8, n)), 1, "", n)
		for way, side := range map[string]int{"0": 0, "1": 1} {
			both := [2]api.Node{leaf("a", "1"), leaf("b", "2")}
			both[side] = n
			up := fork(8, 7, both[0], both[1])
			f := fetch.New(8, topOf(8, up))
			takes(t, f, 2, "", up)
			bars(t, what+" at "+way, f, 1, way, n)
		}
	}
}

func TestWhatMayBeANode(t *testing.T) {
	long, much := strings.Repeat("k", api.MaxKey), strings.Repeat("v", api.MaxValue)
	for what, n := range map[string]api.Node{
		"the empty key":     leaf("", "v"),
		"the longest key":   leaf(long, "v"),
		"the longest value": leaf("k", much),
		"the longest both":  leaf(long, much),
		"any bytes":         leaf("\x00\xff", "\x00"),
		"the first place":   {Kind: api.Fork, Pos: 0, Left: 1, Right: 2},
		"the last place":    {Kind: api.Fork, Pos: 9*api.MaxKey - 1, Left: 1, Right: 2},
		"no digests":        {Kind: api.Fork, Pos: 5},
		"great digests":     {Kind: api.Fork, Pos: 5, Left: math.MaxUint64, Right: math.MaxUint64},
	} {
		f := fetch.New(8, topOf(8, n))
		takes(t, f, 1, "", n)
		up := fork(8, 200, n, n)
		g := fetch.New(8, topOf(8, up))
		takes(t, g, 1, "", up)
		takes(t, g, 1, "1", n)
		if n.Kind == api.Fork {
			wants(t, "F2: "+what, f, "0", "1")
			wants(t, "F2: "+what, g, "0", "10", "11")
			continue
		}
		wants(t, "F2: "+what, f)
		wants(t, "F2: "+what, g, "0")
		is(t, what, f, treeOf(t, 8, n.Key, n.Value))
	}
}

func TestAnotherDigest(t *testing.T) {
	tree := letters(t, 8, "abc")
	top := nodeAt(t, tree, "")
	f := fetch.New(8, tree.Root())
	bars(t, "an empty tree", f, 1, "", api.Node{})
	bars(t, "a leaf of it", f, 2, "", leaf("a", "of a"))
	bars(t, "sides that are turned about", f, 3, "", api.Node{Kind: api.Fork, Pos: top.Pos, Left: top.Right, Right: top.Left})
	bars(t, "another place", f, 4, "", api.Node{Kind: api.Fork, Pos: top.Pos + 1, Left: top.Left, Right: top.Right})
	takes(t, f, 5, "", top)
	bars(t, "what stands at the other side", f, 6, "0", nodeAt(t, tree, "1"))
	bars(t, "what stands above", f, 7, "0", top)
	bars(t, "another value", f, 0, "0", leaf("a", "of b"))
	bars(t, "nothing", f, -8, "1", api.Node{})
	bars(t, "of a who far below", f, math.MinInt, "1", api.Node{})
	bars(t, "of a who far above", f, math.MaxInt, "1", api.Node{})
	if l := f.Barred(); !slices.Equal(l, []int{math.MinInt, -8, 0, 1, 2, 3, 4, 6, 7, math.MaxInt}) {
		t.Errorf("F3: barred are %v", l)
	}
	// At the top the tree's digest is asked, below it the node's.
	only := leaf("a", "1")
	bars(t, "a node of that digest, not a tree", fetch.New(8, overOf(8, only)), 1, "", only)
	up := api.Node{Kind: api.Fork, Pos: 7, Left: topOf(8, only), Right: 2}
	f = fetch.New(8, topOf(8, up))
	takes(t, f, 1, "", up)
	bars(t, "a tree of that digest, not a node", f, 1, "0", only)
}

func TestNoBareBelowAFork(t *testing.T) {
	// Over tells of a Bare what it tells of a leaf without key and value.
	bare := api.Node{Kind: api.Bare}
	for _, d := range []api.Digest{overOf(8, bare), topOf(8, bare), 0} {
		up := api.Node{Kind: api.Fork, Pos: 7, Left: d, Right: d}
		f := fetch.New(8, topOf(8, up))
		takes(t, f, 1, "", up)
		bars(t, "an empty tree at the left", f, 1, "0", bare)
		bars(t, "an empty tree at the right", f, 2, "1", bare)
	}
}

func TestTheFirstReasonIsTold(t *testing.T) {
	tree := letters(t, 8, "ab")
	f := fetch.New(8, tree.Root())
	bars(t, "a lie", f, 1, "", leaf("x", "y"))
	refuses(t, "one who is barred, and right", f, 1, "", nodeAt(t, tree, ""), api.ErrSeat)
	refuses(t, "one who is barred, at no place", f, 1, "0", leaf("a", "of a"), api.ErrSeat)
	refuses(t, "one who is barred, and wrong", f, 1, "", leaf("x", "y"), api.ErrSeat)
	refuses(t, "no place, and what may be no node", f, 2, "0", api.Node{Kind: 9}, api.ErrPlace)
	refuses(t, "no place, and another digest", f, 2, "1", leaf("x", "y"), api.ErrPlace)
	takes(t, f, 2, "", nodeAt(t, tree, ""))
	refuses(t, "a node that came", f, 2, "", nodeAt(t, tree, ""), api.ErrPlace)
	takes(t, f, 3, "0", leaf("a", "of a"))
	refuses(t, "a leaf that came", f, 2, "0", leaf("a", "of a"), api.ErrPlace)
	refuses(t, "a lie where a leaf came", f, 2, "0", leaf("a", "of b"), api.ErrPlace)
	takes(t, f, 2, "1", leaf("b", "of b"))
	refuses(t, "when all is there", f, 2, "1", leaf("b", "of b"), api.ErrPlace)
	refuses(t, "one who is barred, when all is there", f, 1, "1", leaf("b", "of b"), api.ErrSeat)
	is(t, "though one lied", f, tree)
}

func TestWaysThatLeadNowhere(t *testing.T) {
	tree := letters(t, 8, "abc")
	f := fetch.New(8, tree.Root())
	ways := []string{"0", "1", "00", "x", "2", "/", " ", "\x00", "\xff", "0x", "x0", "-", "０", strings.Repeat("0", 70000)}
	for _, way := range ways {
		refuses(t, "at "+way[:min(9, len(way))], f, 1, way, nodeAt(t, tree, ""), api.ErrPlace)
	}
	takes(t, f, 1, "", nodeAt(t, tree, ""))
	takes(t, f, 1, "0", nodeAt(t, tree, "0"))
	for _, way := range append(ways[2:], "000", "001", "10", "11", "0", "") {
		if slices.Contains(f.Wants(9), way) {
			continue
		}
		refuses(t, "at "+way[:min(9, len(way))], f, 1, way, leaf("a", "of a"), api.ErrPlace)
	}
}

func TestWhatIsNoTree(t *testing.T) {
	a, b, c := leaf("a", "1"), leaf("b", "2"), leaf("c", "3")
	for what, up := range map[string]api.Node{
		"turned about":     fork(8, 7, b, a),
		"at another place": fork(8, 8, a, b),
		"of one leaf":      fork(8, 7, a, a),
		"of one key":       fork(8, 7, a, leaf("a", "2")),
	} {
		f := fetch.New(8, topOf(8, up))
		takes(t, f, 1, "", up)
		for _, way := range []string{"0", "1"} {
			for _, n := range []api.Node{a, b, leaf("a", "2")} {
				if d := map[string]api.Digest{"0": up.Left, "1": up.Right}[way]; overOf(8, n) == d {
					takes(t, f, 1, way, n)
				}
			}
		}
		wants(t, what, f)
		isNot(t, what, f, api.ErrRoot)
		isNot(t, what+", once more", f, api.ErrRoot)
	}
	// A fork whose place is not behind the one above it: that it is no tree shows in the end.
	low := fork(8, 7, a, b)
	up := fork(8, 8, low, c)
	f := fetch.New(8, topOf(8, up))
	takes(t, f, 1, "", up)
	takes(t, f, 1, "0", low)
	takes(t, f, 1, "00", a)
	takes(t, f, 1, "01", b)
	takes(t, f, 1, "1", c)
	isNot(t, "places that fall", f, api.ErrRoot)
}

// clash finds a fork of two leaves of one key, above which stands the root of a tree of the second leaf alone.
func clash(t *testing.T) (up, first, second api.Node) {
	t.Helper()
	for pos := range 9 * api.MaxKey {
		for i := range 26 {
			first, second = leaf("k", "x"), leaf("k", string(rune('a'+i)))
			up = fork(1, pos, first, second)
			if first != second && topOf(1, up) == topOf(1, second) && topOf(1, first) != topOf(1, second) {
				return up, first, second
			}
		}
	}
	t.Fatal("no clash was found")
	return up, first, second
}

func TestOfOneKeyTheLastOne(t *testing.T) {
	up, first, second := clash(t)
	f := fetch.New(1, topOf(1, up))
	takes(t, f, 1, "", up)
	takes(t, f, 1, "0", first)
	takes(t, f, 1, "1", second)
	is(t, "the last one is the tree's", f, treeOf(t, 1, second.Key, second.Value))

	f = fetch.New(1, topOf(1, up))
	takes(t, f, 1, "", up)
	takes(t, f, 1, "1", second)
	takes(t, f, 1, "0", first)
	isNot(t, "the last one is not the tree's", f, api.ErrRoot)
}

func TestWidths(t *testing.T) {
	for _, w := range []int{math.MinInt, -1, 0, 1, 2, 7, 8, 9, math.MaxInt} {
		tree := letters(t, w, "abcdefg")
		f := fetch.New(w, tree.Root())
		for l := f.Wants(1); len(l) > 0; l = f.Wants(1) {
			takes(t, f, 1, l[0], nodeAt(t, tree, l[0]))
		}
		is(t, "of any width", f, tree)
		got, _ := f.Done()
		more, e := got.Put("h", "more")
		want, _ := tree.Put("h", "more")
		if e != api.OK || more.Root() != want.Root() {
			t.Errorf("F3: with digests of %d bytes: more is put into what is done, and it is another tree", w)
		}
	}
	// A digest that no node has is wanted for ever.
	f := fetch.New(1, 256)
	bars(t, "too great a digest", f, 1, "", api.Node{})
	wants(t, "F1: too great a digest", f, "")
}

func TestAnswersAreTheCallers(t *testing.T) {
	tree := letters(t, 8, "abcd")
	f := fetch.New(8, tree.Root())
	bars(t, "a lie", f, 5, "", api.Node{})
	bars(t, "a lie", f, 3, "", api.Node{})
	takes(t, f, 1, "", nodeAt(t, tree, ""))
	was := see(f)
	f.Wants(9)[0] = "x"
	f.Barred()[0] = 77
	if !see(f).same(was) {
		t.Errorf("P2: it is %v, not %v", see(f), was)
	}
	a, b := f.Wants(2), f.Wants(1)
	if b = append(b, "x"); a[1] != was.wants[1] {
		t.Error("P2: two answers share memory")
	}
	refuses(t, "one whom a caller wrote over", f, 3, "0", api.Node{}, api.ErrSeat)
}

func TestWhatIsDoneStays(t *testing.T) {
	tree := letters(t, 8, "abcd")
	f := fetch.New(8, tree.Root())
	for l := f.Wants(1); len(l) > 0; l = f.Wants(1) {
		isNot(t, "a node is wanted", f, api.ErrBusy)
		takes(t, f, 1, l[0], nodeAt(t, tree, l[0]))
	}
	got, _ := f.Done()
	got.Put("e", "more")
	got.Put("a", "")
	f.Give(2, "", api.Node{})
	is(t, "asked again", f, tree)
	if l := f.Barred(); len(l) != 0 {
		t.Errorf("F2: %v are barred, though nothing was wanted", l)
	}
}

package fetch_test

import (
	"fmt"
	"maps"
	"math/rand"
	"slices"
	"strings"
	"testing"

	"assize/api"
	"assize/fetch"
	"assize/trie"
)

// plain is a fetch as the chapter tells it, told once more: of lists that are gone through each time.
type plain struct {
	w      int
	root   api.Digest
	wanted map[string]api.Digest
	kept   []api.Item
	barred []int
}

func newPlain(w int, root api.Digest) *plain {
	return &plain{w: w, root: root, wanted: map[string]api.Digest{"": root}}
}

func (p *plain) wants(most int) []string {
	l := slices.Sorted(maps.Keys(p.wanted))
	return l[:min(len(l), max(0, most))]
}

func (p *plain) give(from int, way string, n api.Node) api.Errno {
	if slices.Contains(p.barred, from) {
		return api.ErrSeat
	}
	d, is := p.wanted[way]
	if !is {
		return api.ErrPlace
	}
	if !p.fits(way, n, d) {
		p.barred = append(p.barred, from)
		slices.Sort(p.barred)
		return api.ErrRoot
	}
	delete(p.wanted, way)
	if n.Kind == api.Fork {
		p.wanted[way+"0"], p.wanted[way+"1"] = n.Left, n.Right
	}
	if n.Kind == api.Leaf {
		p.kept = append(p.kept, api.Item{Key: n.Key, Value: n.Value})
	}
	return api.OK
}

func (p *plain) fits(way string, n api.Node, d api.Digest) bool {
	rest := n
	switch n.Kind {
	case api.Bare:
	case api.Leaf:
		if len(n.Key) > 32 || len(n.Value) == 0 || len(n.Value) > 4096 {
			return false
		}
		rest.Key, rest.Value = "", ""
	case api.Fork:
		if n.Pos < 0 || n.Pos > 287 {
			return false
		}
		rest.Pos, rest.Left, rest.Right = 0, 0, 0
	default:
		return false
	}
	if rest != (api.Node{Kind: n.Kind}) {
		return false
	}
	if way == "" {
		return topOf(p.w, n) == d
	}
	return n.Kind != api.Bare && overOf(p.w, n) == d
}

func (p *plain) done() (trie.Tree, api.Errno) {
	if len(p.wanted) > 0 {
		return trie.Tree{}, api.ErrBusy
	}
	last := map[string]string{}
	for _, x := range p.kept {
		last[x.Key] = x.Value
	}
	tree := trie.New(p.w)
	for k, v := range last {
		tree, _ = tree.Put(k, v)
	}
	if tree.Root() != p.root {
		return trie.Tree{}, api.ErrRoot
	}
	return tree, api.OK
}

func (p *plain) see() seen {
	tree, e := p.done()
	return seen{p.wants(1 << 30), p.barred, e, tree.Root(), tree.Items("", -1)}
}

// drawTree is a small tree whose keys often begin alike.
func drawTree(r *rand.Rand, w int) trie.Tree {
	tree := trie.New(w)
	for range r.Intn(9) {
		key := "abcdabcd"[:r.Intn(3)] + string(rune('a'+r.Intn(6)))
		tree, _ = tree.Put(key, string(rune('0'+r.Intn(10))))
	}
	return tree
}

// drawNode is any node, which may be or not.
func drawNode(r *rand.Rand) api.Node {
	n := api.Node{Kind: api.Fork, Pos: r.Intn(288), Left: api.Digest(r.Intn(256)), Right: api.Digest(r.Intn(256))}
	if r.Intn(3) > 0 {
		n = leaf("abc"[:r.Intn(4)], fmt.Sprint(r.Intn(1000)))
	}
	return n
}

// marred is a node of which something is another.
func marred(r *rand.Rand, n api.Node) api.Node {
	switch r.Intn(8) {
	case 0:
		n.Key += "x"
	case 1:
		n.Value += "x"
	case 2:
		n.Pos += r.Intn(5) - 2
	case 3:
		n.Left ^= 1 << r.Intn(64)
	case 4:
		n.Right ^= 1 << r.Intn(64)
	case 5:
		n.Left, n.Right = n.Right, n.Left
	case 6:
		n.Kind = r.Intn(5) - 1
	case 7:
		n = api.Node{}
	}
	return n
}

// clashing is a node that is taken at a place where another stands, if one is found; it is among the shortest digests alone.
func clashing(r *rand.Rand, p *plain, way string, n api.Node) api.Node {
	for i := 0; i < 400 && p.w == 1; i++ {
		if x := drawNode(r); x != n && p.fits(way, x, p.wanted[way]) {
			return x
		}
	}
	return n
}

// said is a way and a node that somebody gives.
func said(r *rand.Rand, p *plain, tree trie.Tree) (string, api.Node) {
	l := append(p.wants(1<<30), strings.Repeat("01", r.Intn(3)), "0x")
	way := l[r.Intn(len(l))]
	n, _ := tree.At(way)
	switch r.Intn(8) {
	case 0:
		n = marred(r, n)
	case 1:
		n = drawNode(r)
	case 2, 3:
		n = clashing(r, p, way, n)
	}
	return way, n
}

func TestFetchesAsToldAnew(t *testing.T) {
	r := rand.New(rand.NewSource(22))
	tally := map[string]int{}
	for range 3000 {
		w := []int{1, 1, 1, 2, 8}[r.Intn(5)]
		tree := drawTree(r, w)
		f, p := fetch.New(w, tree.Root()), newPlain(w, tree.Root())
		for range r.Intn(40) {
			way, n := said(r, p, tree)
			from := r.Intn(30) - 5
			got, want := f.Give(from, way, n), p.give(from, way, n)
			if got != want || !see(f).same(p.see()) {
				t.Fatalf("F1 to F3: %v: Give(%d, %q, %v): %d, not %d; it is %v, not %v", tree.Items("", -1), from, way, n, got, want, see(f), p.see())
			}
			most := r.Intn(6) - 1
			if l := f.Wants(most); !slices.Equal(l, p.wants(most)) {
				t.Fatalf("F1: Wants(%d) is %q, not %q", most, l, p.wants(most))
			}
			tally[fmt.Sprint("Give ", got)]++
		}
		done, e := f.Done()
		tally[fmt.Sprint("Done ", e)]++
		if e == api.OK && !sameTree(done, tree) {
			tally["another tree"]++
		}
	}
	for _, what := range []string{"Give 0", "Give 5", "Give 17", "Give 30", "Done 0", "Done 5", "Done 26", "another tree"} {
		if tally[what] < 20 {
			t.Errorf("what is drawn comes to little: of %q there are %d", what, tally[what])
		}
	}
}

// clashes: is there a place at which a node was taken that is not the tree's, though above it all are? Then both have one digest.
func clashes(t *testing.T, tree trie.Tree, w int, taken map[string]api.Node) bool {
	t.Helper()
	for _, way := range slices.Sorted(maps.Keys(taken)) {
		n, e := tree.At(way)
		if e != api.OK {
			continue // behind a place that is no fork in the tree
		}
		if taken[way] == n {
			continue
		}
		a, b := overOf(w, n), overOf(w, taken[way])
		if way == "" {
			a, b = topOf(w, n), topOf(w, taken[way])
		}
		if a != b {
			t.Fatalf("F2: at %q %v was taken, where %v stands", way, taken[way], n)
		}
		return true
	}
	return false
}

// fetched plays a fetch among some who lie, and one, 0, who does not: whether all was as it should be, or a digest clashed.
func fetched(t *testing.T, r *rand.Rand, w int) (well, clash bool) {
	tree, other := drawTree(r, w), drawTree(r, w)
	f, p := fetch.New(w, tree.Root()), newPlain(w, tree.Root())
	taken, lied := map[string]api.Node{}, map[int]bool{}
	for range 600 {
		l := f.Wants(1 + r.Intn(4))
		if len(l) == 0 {
			break
		}
		way, from := l[r.Intn(len(l))], r.Intn(6)
		if slices.Contains(f.Barred(), from) {
			continue
		}
		is, e := tree.At(way)
		n := is
		if from > 0 {
			switch r.Intn(4) {
			case 0:
				n = marred(r, n)
			case 1:
				n, _ = other.At(way)
			case 2:
				n = clashing(r, p, way, n)
			}
			lied[from] = lied[from] || n != is
		} else if e != api.OK {
			continue // who does not lie has nothing to say there
		}
		p.give(from, way, n)
		if f.Give(from, way, n) == api.OK {
			taken[way] = n
		}
	}
	done, e := f.Done()
	well = e == api.OK && sameTree(done, tree)
	for _, who := range f.Barred() {
		well = well && lied[who]
	}
	return well, clashes(t, tree, w, taken)
}

func TestWhateverLiarsSay(t *testing.T) {
	r := rand.New(rand.NewSource(23))
	for range 1500 {
		if well, _ := fetched(t, r, 8); !well {
			t.Fatal("what comes of it: with digests of 8 bytes what is done is not the tree, or one is barred who did not lie")
		}
	}
	ill := 0
	for range 500 {
		well, clash := fetched(t, r, 1)
		if !well && !clash {
			t.Fatal("what comes of it: it did not end well, and no digest clashed")
		}
		if !well {
			ill++
		}
	}
	if ill < 20 {
		t.Errorf("what is drawn comes to little: %d did not end well", ill)
	}
}

func TestAGreatTree(t *testing.T) {
	tree := trie.New(8)
	for i := range 4000 {
		tree, _ = tree.Put(fmt.Sprint("key ", i*i), fmt.Sprint("value ", i))
	}
	// All that is wanted at once, and one by one.
	for _, most := range []int{1 << 30, 1, 7} {
		f := fetch.New(8, tree.Root())
		for l := f.Wants(most); len(l) > 0; l = f.Wants(most) {
			for _, way := range l {
				n, _ := tree.At(way)
				if e := f.Give(1, way, n); e != api.OK {
					t.Fatalf("F2: Give(1, %q, %v): %d", way, n, e)
				}
			}
		}
		is(t, "a great tree", f, tree)
	}
}

func TestADeepWay(t *testing.T) {
	// With digests of one byte a liar finds a fork that may stand below itself, at both sides, and a leaf that may stand there too.
	var up, end api.Node
	for i := range 288 * 256 {
		up = api.Node{Kind: api.Fork, Pos: i / 256, Left: api.Digest(i % 256), Right: api.Digest(i % 256)}
		if overOf(1, up) == up.Left {
			break
		}
	}
	for i := 0; overOf(1, end) != up.Left; i++ {
		end = leaf("k", fmt.Sprint(i))
	}
	const deep = 3000
	f := fetch.New(1, topOf(1, up))
	for i := range deep {
		takes(t, f, 1, strings.Repeat("0", i), up)
	}
	if l := f.Wants(3); len(l) != 3 || l[0] != strings.Repeat("0", deep) || l[1] != strings.Repeat("0", deep-1)+"1" || l[2] != strings.Repeat("0", deep-2)+"1" {
		t.Errorf("F1: at a depth of %d %d are wanted", deep, len(l))
	}
	for l := f.Wants(1); len(l) > 0; l = f.Wants(1) {
		takes(t, f, 1, l[0], end)
	}
	tree := treeOf(t, 1, end.Key, end.Value)
	if tree.Root() == topOf(1, up) {
		is(t, "a deep way", f, tree)
	} else {
		isNot(t, "a deep way", f, api.ErrRoot)
	}
}

package trie_test

import (
	"fmt"
	"math/rand"
	"reflect"
	"slices"
	"strings"
	"testing"

	"assize/api"
	"assize/digest"
	"assize/trie"
	"assize/wire"
)

// plainCheck: T6, told anew.
func plainCheck(w int, root api.Digest, key string, p api.Proof) (string, api.Errno) {
	if len(key) > api.MaxKey {
		return "", api.ErrLimit
	}
	if _, e := wire.PutProof(p); e != api.OK {
		return "", e
	}
	for _, turn := range p.Turns {
		if bitsOf(key)[turn.Pos] != bitsOf(p.Key)[turn.Pos] {
			return "", api.ErrForm
		}
	}
	if digest.OfImage(w, plainImages(w, p)[0]) != root {
		return "", api.ErrRoot
	}
	if p.Leaf && p.Key == key {
		return p.Value, api.OK
	}
	return "", api.OK
}

func TestCheckErrors(t *testing.T) {
	tr := treeOf(t, 8, "a", "1", "b", "2", "abc", "3", "", "4")
	root := tr.Root()
	good, _ := tr.Prove("abc")
	change := func(f func(p *api.Proof)) api.Proof {
		p := good
		p.Turns = slices.Clone(good.Turns)
		f(&p)
		return p
	}
	long := strings.Repeat("k", api.MaxKey+1)
	for i, c := range []struct {
		key string
		p   api.Proof
		e   api.Errno
	}{
		{"abc", good, api.OK},
		{long, good, api.ErrLimit},
		{long, api.Proof{Leaf: true}, api.ErrLimit},
		{"abc", change(func(p *api.Proof) { p.Value = "" }), api.ErrForm},
		{"abc", change(func(p *api.Proof) { p.Value = "9" }), api.ErrRoot},
		{"abc", change(func(p *api.Proof) { p.Value = strings.Repeat("v", api.MaxValue+1) }), api.ErrLimit},
		{"abc", change(func(p *api.Proof) { p.Key = long }), api.ErrLimit},
		{"abc", change(func(p *api.Proof) { p.Key = "abd" }), api.ErrRoot},
		{"abc", change(func(p *api.Proof) { p.Key = "" }), api.ErrForm},
		{"a", good, api.ErrForm},
		{"b", good, api.ErrForm},
		{"", good, api.ErrForm},
		{"abd", good, api.OK},
		{"abc", change(func(p *api.Proof) { p.Leaf = false }), api.ErrForm},
		{"abc", change(func(p *api.Proof) { slices.Reverse(p.Turns) }), api.ErrForm},
		{"abc", change(func(p *api.Proof) { p.Turns[0].Side++ }), api.ErrRoot},
		{"abc", change(func(p *api.Proof) { p.Turns[len(p.Turns)-1].Side++ }), api.ErrRoot},
		{"abc", change(func(p *api.Proof) { p.Turns = p.Turns[1:] }), api.ErrRoot},
		{"abc", change(func(p *api.Proof) { p.Turns[len(p.Turns)-1].Pos = 20 }), api.ErrRoot},
		{"abc", change(func(p *api.Proof) { p.Turns[len(p.Turns)-1].Pos = api.MaxTurns }), api.ErrLimit},
		{"abc", change(func(p *api.Proof) { p.Turns[0].Pos = -1 }), api.ErrLimit},
		{"abc", api.Proof{}, api.ErrRoot},
		{"abc", api.Proof{Key: "a"}, api.ErrForm},
	} {
		want := ""
		if c.e == api.OK && c.key == c.p.Key {
			want = "3"
		}
		if got, e := trie.Check(8, root, c.key, c.p); got != want || e != c.e {
			t.Errorf("T6: case %d: %q %d, not %q %d", i, got, e, want, c.e)
		}
		if want, e := plainCheck(8, root, c.key, c.p); e != c.e {
			t.Errorf("T6: case %d told anew: %q %d", i, want, e)
		}
	}
	if got, e := trie.Check(8, root+1, "abc", good); got != "" || e != api.ErrRoot {
		t.Errorf("T6: another root: %q %d", got, e)
	}
	if got, e := trie.Check(7, root, "abc", good); got != "" || e != api.ErrRoot {
		t.Errorf("T6: another width: %q %d", got, e)
	}
	if got, e := trie.Check(8, trie.New(8).Root(), "", api.Proof{}); got != "" || e != api.OK {
		t.Errorf("T6: an empty tree: %q %d", got, e)
	}
	if _, e := trie.Check(8, trie.New(8).Root(), "abc", good); e != api.ErrRoot {
		t.Errorf("T6: a leaf of an empty tree: %d", e)
	}
}

// A place behind the end of both keys is a turn to the left: their bits there are 0.
func TestTurnBehindTheKey(t *testing.T) {
	p := api.Proof{Turns: []api.Turn{{Pos: 287, Side: 1 << 63}}, Leaf: true, Key: "a", Value: "v"}
	leaf := digest.Of(2, api.TagEntry, "a", "v")
	fork := digest.Of(2, api.TagFork, five(287), eight(leaf), eight(1<<63))
	root := digest.Of(2, api.TagTree, eight(fork))
	if v, e := trie.Check(2, root, "a", p); v != "v" || e != api.OK {
		t.Errorf("T6: %q %d", v, e)
	}
	if v, e := trie.Check(2, root, "b", p); v != "" || e != api.OK {
		t.Errorf("T6: of another key: %q %d", v, e)
	}
}

func TestCheckAsToldAnew(t *testing.T) {
	r := rand.New(rand.NewSource(6))
	seen := map[api.Errno]int{}
	for range 6000 {
		w := 1 + r.Intn(2)
		p := api.Proof{Leaf: r.Intn(9) > 0, Key: draw(r), Value: "v"[:min(1, r.Intn(20))]}
		pos := 0
		for range r.Intn(4) {
			pos += r.Intn(80)
			p.Turns = append(p.Turns, api.Turn{Pos: pos, Side: api.Digest(r.Intn(300))})
		}
		if r.Intn(9) == 0 {
			p = api.Proof{}
		}
		key := p.Key
		if r.Intn(2) == 0 {
			key = draw(r) + "k"[:r.Intn(2)]
		}
		root := trie.New(w).Root()
		if _, e := wire.PutProof(p); e == api.OK && r.Intn(5) > 0 {
			root = digest.OfImage(w, plainImages(w, p)[0])
		}
		v, e := trie.Check(w, root, key, p)
		want, f := plainCheck(w, root, key, p)
		if v != want || e != f {
			t.Fatalf("T6: Check(%d, %x, %q, %v): %q %d, not %q %d", w, root, key, p, v, e, want, f)
		}
		seen[e]++
	}
	for _, e := range []api.Errno{api.OK, api.ErrForm, api.ErrLimit, api.ErrRoot} {
		if seen[e] < 20 {
			t.Errorf("%d of error %d", seen[e], e)
		}
	}
}

// clashes fails unless Clash finds what T7 says.
func clashes(t *testing.T, w int, root api.Digest, key string, p, q api.Proof) bool {
	t.Helper()
	a, b, found := trie.Clash(w, root, key, p, q)
	x, e := plainCheck(w, root, key, p)
	y, f := plainCheck(w, root, key, q)
	var wa, wb api.Image
	want := e == api.OK && f == api.OK && x != y
	if want {
		one, other := plainImages(w, p), plainImages(w, q)
		i := 0
		for reflect.DeepEqual(one[i], other[i]) {
			i++
		}
		wa, wb = one[i], other[i]
	}
	if found != want || !reflect.DeepEqual(a, wa) || !reflect.DeepEqual(b, wb) {
		t.Fatalf("T7: Clash(%d, %x, %q, %v, %v): %v %v %v, not %v %v %v", w, root, key, p, q, a, b, found, wa, wb, want)
	}
	if found && digest.OfImage(w, a) != digest.OfImage(w, b) {
		t.Fatalf("T7: the images %v, %v have unlike digests", a, b)
	}
	return found
}

// forged: proofs of other trees that lead to the root by chance.
func forged(t *testing.T, root api.Digest) []api.Proof {
	var l []api.Proof
	for i := 0; len(l) < 40 && i < 60000; i++ {
		p := api.Proof{Leaf: true, Key: []string{"k", "k", "l"}[i%3], Value: fmt.Sprint(i)}
		for d := range i % 4 {
			p.Turns = append(p.Turns, api.Turn{Pos: 5*d + 12, Side: api.Digest(i % 251)})
		}
		if _, e := plainCheck(1, root, "k", p); e == api.OK {
			l = append(l, p)
		}
	}
	if len(l) < 40 {
		t.Fatal("too few proofs are forged")
	}
	return l
}

func TestClashes(t *testing.T) {
	tr := treeOf(t, 1, "k", "one", "m", "two", "a", "three")
	p, _ := tr.Prove("k")
	l := append(forged(t, tr.Root()), p)
	// Ways that are alike at first: the leaf's digest clashes, or the lowest fork's.
	for i := 0; i < 4000; i++ {
		q := p
		q.Value = fmt.Sprint("v", i)
		q.Turns = slices.Clone(p.Turns)
		if i%2 == 0 {
			q.Turns[len(q.Turns)-1].Side = api.Digest(i)
		}
		if _, e := plainCheck(1, tr.Root(), "k", q); e == api.OK {
			l = append(l, q)
		}
	}
	n := 0
	tags := map[int]int{}
	for _, p := range l {
		for _, q := range l {
			if clashes(t, 1, tr.Root(), "k", p, q) {
				n++
				a, _, _ := trie.Clash(1, tr.Root(), "k", p, q)
				tags[a.Tag]++
			}
			clashes(t, 1, tr.Root()+1, "k", p, q)
			clashes(t, 2, tr.Root(), "k", p, q)
			clashes(t, 1, tr.Root(), "j", p, q)
		}
	}
	if n == 0 || tags[api.TagTree] == 0 || tags[api.TagFork] == 0 || tags[api.TagEntry] == 0 {
		t.Errorf("T7: %d clashes, by tags %v", n, tags)
	}
}

func TestClashWithAnEmptyTree(t *testing.T) {
	root := trie.New(1).Root()
	n := 0
	for _, p := range forged(t, root) {
		if clashes(t, 1, root, "k", p, api.Proof{}) {
			n++
		}
		clashes(t, 1, root, "k", api.Proof{}, p)
	}
	if n == 0 {
		t.Error("T7: none is found")
	}
	clashes(t, 1, root, "k", api.Proof{}, api.Proof{})
}

func TestClashImagesAreFresh(t *testing.T) {
	tr := treeOf(t, 1, "k", "one")
	p, _ := tr.Prove("k")
	for _, q := range forged(t, tr.Root()) {
		a, b, found := trie.Clash(1, tr.Root(), "k", p, q)
		if !found {
			continue
		}
		a.Parts[0], b.Parts[0] = "x", "y"
		if a.Parts[0] == b.Parts[0] || !clashes(t, 1, tr.Root(), "k", p, q) {
			t.Fatal("P2: images share their parts")
		}
	}
}

package fetch_test

import (
	"slices"
	"testing"

	"assize/api"
	"assize/digest"
	"assize/fetch"
	"assize/trie"
)

// treeOf is the tree of key, value, key, value and so on.
func treeOf(t *testing.T, w int, items ...string) trie.Tree {
	t.Helper()
	tree := trie.New(w)
	for i := 0; i < len(items); i += 2 {
		next, e := tree.Put(items[i], items[i+1])
		if e != api.OK {
			t.Fatalf("Put(%q, %.20q): %d", items[i], items[i+1], e)
		}
		tree = next
	}
	return tree
}

// nodeAt is what stands in a tree at the end of a way.
func nodeAt(t *testing.T, tree trie.Tree, way string) api.Node {
	t.Helper()
	n, e := tree.At(way)
	if e != api.OK {
		t.Fatalf("At(%q): %d", way, e)
	}
	return n
}

func sameTree(a, b trie.Tree) bool {
	return a.Root() == b.Root() && slices.Equal(a.Items("", -1), b.Items("", -1))
}

// seen is all that a fetch tells.
type seen struct {
	wants  []string
	barred []int
	code   api.Errno
	root   api.Digest
	items  []api.Item
}

func see(f *fetch.Fetch) seen {
	tree, e := f.Done()
	return seen{f.Wants(1 << 30), f.Barred(), e, tree.Root(), tree.Items("", -1)}
}

func (s seen) same(x seen) bool {
	return slices.Equal(s.wants, x.wants) && slices.Equal(s.barred, x.barred) && s.code == x.code && s.root == x.root && slices.Equal(s.items, x.items)
}

// takes gives what is to be taken.
func takes(t *testing.T, f *fetch.Fetch, from int, way string, n api.Node) {
	t.Helper()
	was := f.Barred()
	if e := f.Give(from, way, n); e != api.OK || !slices.Equal(f.Barred(), was) {
		t.Fatalf("F2: Give(%d, %q, %.60v): %d; barred are %v", from, way, n, e, f.Barred())
	}
}

// bars gives what somebody is to be barred for; nothing else is to change.
func bars(t *testing.T, what string, f *fetch.Fetch, from int, way string, n api.Node) {
	t.Helper()
	want := see(f)
	want.barred = append(want.barred, from)
	slices.Sort(want.barred)
	if e := f.Give(from, way, n); e != api.ErrRoot || !see(f).same(want) {
		t.Errorf("F2: %s: %d, not ErrRoot; then it is %v, not %v", what, e, see(f), want)
	}
}

// refuses gives what is to be refused without any change.
func refuses(t *testing.T, what string, f *fetch.Fetch, from int, way string, n api.Node, code api.Errno) {
	t.Helper()
	was := see(f)
	if e := f.Give(from, way, n); e != code || !see(f).same(was) {
		t.Errorf("F2: %s: %d, not %d; then it is %v, not %v", what, e, code, see(f), was)
	}
}

// wants asks for the ways that are wanted.
func wants(t *testing.T, what string, f *fetch.Fetch, ways ...string) {
	t.Helper()
	if got := f.Wants(1 << 30); !slices.Equal(got, ways) {
		t.Errorf("%s: wanted are %q, not %q", what, got, ways)
	}
}

// is asks for the tree that is done.
func is(t *testing.T, what string, f *fetch.Fetch, want trie.Tree) {
	t.Helper()
	if got, e := f.Done(); e != api.OK || !sameTree(got, want) {
		t.Errorf("F3: %s: done is %v, %d, not %v", what, got.Items("", 9), e, want.Items("", 9))
	}
}

// isNot asks for the reason why nothing is done.
func isNot(t *testing.T, what string, f *fetch.Fetch, code api.Errno) {
	t.Helper()
	if got, e := f.Done(); e != code || !sameTree(got, trie.Tree{}) {
		t.Errorf("F3: %s: done is %v, %d, not %d alone", what, got.Items("", 9), e, code)
	}
}

// Chapter 3's digests, told anew.

func eight(d api.Digest) string {
	b := make([]byte, 8)
	for i := range 8 {
		b[i] = byte(d >> (56 - 8*i))
	}
	return string(b)
}

func overOf(w int, n api.Node) api.Digest {
	if n.Kind == api.Fork {
		return digest.Of(w, api.TagFork, eight(api.Digest(n.Pos))[3:], eight(n.Left), eight(n.Right))
	}
	return digest.Of(w, api.TagEntry, n.Key, n.Value)
}

func topOf(w int, n api.Node) api.Digest {
	if n.Kind == api.Bare {
		return digest.Of(w, api.TagTree)
	}
	return digest.Of(w, api.TagTree, eight(overOf(w, n)))
}

func leaf(key, value string) api.Node { return api.Node{Kind: api.Leaf, Key: key, Value: value} }

// fork is one with these two at its sides.
func fork(w, pos int, left, right api.Node) api.Node {
	return api.Node{Kind: api.Fork, Pos: pos, Left: overOf(w, left), Right: overOf(w, right)}
}

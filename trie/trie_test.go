package trie_test

import (
	"fmt"
	"maps"
	"math"
	"math/rand"
	"reflect"
	"slices"
	"strings"
	"testing"

	"assize/api"
	"assize/digest"
	"assize/trie"
)

func TestExample(t *testing.T) {
	if got := treeOf(t, 8, "a", "1", "b", "2").Root(); got != 0x043440836a3365a1 {
		t.Errorf("a: 1, b: 2: %x", got)
	}
	n, e := treeOf(t, 8, "a", "1", "b", "2").At("")
	if e != api.OK || n.Kind != api.Fork || n.Pos != 7 {
		t.Errorf("a: 1, b: 2: %v %d", n, e)
	}
	if got := trie.New(8).Root(); got != 0x28c0a36619bf7849 {
		t.Errorf("empty: %x", got)
	}
}

// same fails unless the tree is, by all that it tells, the one that the chapter makes of the map.
func same(t *testing.T, w int, tr trie.Tree, m map[string]string, asked ...string) {
	t.Helper()
	p := plainOf(w, m)
	if got, want := tr.Root(), p.root(w); got != want {
		t.Fatalf("T3: %q of width %d: root %x, not %x", m, w, got, want)
	}
	if got, want := tr.Items("", -1), plainItems(m, "", -1); !slices.Equal(got, want) {
		t.Fatalf("T1: %q: items %q", m, got)
	}
	nodes := map[string]api.Node{"": {}}
	p.ways("", nodes)
	for way, n := range nodes {
		got, e := tr.At(way)
		if got != n || e != api.OK {
			t.Fatalf("T4: %q: at %s: %v %d, not %v", m, way, got, e, n)
		}
		for _, on := range []string{way + "0", way + "1", way + "01"} {
			if _, is := nodes[on]; is || n.Kind == api.Fork {
				continue
			}
			if got, e := tr.At(on); got != (api.Node{}) || e != api.ErrPlace {
				t.Fatalf("T4: %q: at %s: %v %d", m, on, got, e)
			}
		}
	}
	for k := range m {
		asked = append(asked, k, k[:len(k)/2])
	}
	for _, k := range asked {
		if got := tr.Get(k); got != m[k] {
			t.Fatalf("T1: %q: of %q: %q", m, k, got)
		}
		proof, e := tr.Prove(k)
		if want := p.prove(k); e != api.OK || !reflect.DeepEqual(proof, want) {
			t.Fatalf("T5: %q: of %q: %v %d, not %v", m, k, proof, e, want)
		}
		if got, e := trie.Check(w, tr.Root(), k, proof); got != m[k] || e != api.OK {
			t.Fatalf("T6: %q: of %q: %q %d", m, k, got, e)
		}
	}
}

func TestTreesAsToldAnew(t *testing.T) {
	r := rand.New(rand.NewSource(3))
	for round := range 120 {
		w := round % 10
		tr, m := trie.New(w), map[string]string{}
		type old struct {
			tree trie.Tree
			m    map[string]string
		}
		var olds []old
		for range r.Intn(25) {
			k, v := draw(r), ""
			if r.Intn(3) > 0 {
				v = strings.Repeat("v", 1+r.Intn(3))
			}
			if l := slices.Sorted(maps.Keys(m)); v == "" && len(l) > 0 && r.Intn(3) > 0 {
				k = l[r.Intn(len(l))]
			}
			olds = append(olds, old{tr, maps.Clone(m)})
			tr = must(t, tr, k, v)
			if v == "" {
				delete(m, k)
			} else {
				m[k] = v
			}
			same(t, w, tr, m, k, draw(r), draw(r))
			for _, prefix := range []string{k, draw(r), k[:len(k)/2], k + "\x00", strings.Repeat("k", 40)} {
				for most := -2; most < 4; most++ {
					if got, want := tr.Items(prefix, most), plainItems(m, prefix, most); !slices.Equal(got, want) {
						t.Fatalf("T1: %q: %d items of %q: %q, not %q", m, most, prefix, got, want)
					}
				}
			}
		}
		for _, o := range olds { // a tree never changes
			same(t, w, o.tree, o.m)
		}
	}
}

func TestBits(t *testing.T) {
	long := strings.Repeat("\xff", api.MaxKey-1)
	for _, c := range []struct {
		a, b  string
		place int
	}{
		{"", "\x00", 0}, {"", "\xff", 0}, {"\x00", "\x80", 1}, {"\x00", "\x01", 8}, {"\xff", "\xfe", 8},
		{"a", "b", 7}, {"a", "a\x00", 9}, {"a\x00", "a\x01", 17}, {"ab", "a", 9}, {"x\x7f", "x\x80", 10},
		{long, long + "\x00", 279}, {long + "\x00", long + "\x01", 287}, {long + "\x00", long + "\x80", 280},
	} {
		n, _ := treeOf(t, 8, c.a, "1", c.b, "2").At("")
		left, _ := treeOf(t, 8, c.a, "1", c.b, "2").At("0")
		if n.Pos != c.place || left.Key != min(c.a, c.b) {
			t.Errorf("T2: %q and %q part at %d, not at %d; %q is left", c.a, c.b, n.Pos, c.place, left.Key)
		}
	}
}

func TestManyKeys(t *testing.T) {
	tr, m := trie.New(3), map[string]string{}
	put := func(k, v string) {
		tr = must(t, tr, k, v)
		if m[k] = v; v == "" {
			delete(m, k)
		}
	}
	for i := range 300 {
		put(fmt.Sprint(i*i), fmt.Sprint(i))
	}
	for i := range api.MaxKey + 1 { // the deepest there can be: each bit is parted at
		put(strings.Repeat("\x00", i), "deep")
		for b := range 8 {
			if i < api.MaxKey {
				put(strings.Repeat("\x00", i)+string([]byte{1 << b}), "deep")
			}
		}
	}
	p, e := tr.Prove(strings.Repeat("\x00", api.MaxKey))
	if e != api.OK || len(p.Turns) < api.MaxTurns-1 {
		t.Errorf("T5: %d turns, %d", len(p.Turns), e)
	}
	same(t, 3, tr, m)
	for i := range 300 {
		put(fmt.Sprint(i*i), "")
	}
	same(t, 3, tr, m)
	for _, k := range slices.Collect(maps.Keys(m)) {
		put(k, "")
	}
	same(t, 3, tr, nil)
}

func TestOrderDoesNotMatter(t *testing.T) {
	a := treeOf(t, 8, "x", "1", "y", "2", "", "3", "z", "4", "z", "", "x", "5")
	b := treeOf(t, 8, "q", "9", "", "3", "x", "5", "y", "7", "y", "2", "q", "")
	if a.Root() != b.Root() {
		t.Error("T2: two trees of one map are unlike")
	}
}

func TestLimits(t *testing.T) {
	full := strings.Repeat("k", api.MaxKey)
	big := strings.Repeat("v", api.MaxValue)
	tr := treeOf(t, 8, full, big, "a", "1")
	if tr.Get(full) != big {
		t.Error("T1: the longest key and value are not there")
	}
	for _, c := range [][2]string{{full + "k", "v"}, {full + "k", ""}, {"k", big + "v"}, {full + "k", big + "v"}, {full, big + "v"}} {
		x, e := tr.Put(c[0], c[1])
		if e != api.ErrLimit || len(x.Items("", -1)) != 0 || x != (trie.Tree{}) {
			t.Errorf("T1: Put(%d bytes, %d bytes): %d", len(c[0]), len(c[1]), e)
		}
	}
	if got := tr.Get(full + "k"); got != "" {
		t.Errorf("T1: a key that is too long has %q", got)
	}
	if p, e := tr.Prove(full + "k"); e != api.ErrLimit || !reflect.DeepEqual(p, api.Proof{}) {
		t.Errorf("T5: a key that is too long: %v %d", p, e)
	}
	if _, e := tr.Prove(full); e != api.OK {
		t.Errorf("T5: the longest key: %d", e)
	}
	if _, e := trie.New(8).Prove(full + "k"); e != api.ErrLimit {
		t.Errorf("T5: a key that is too long, in an empty tree: %d", e)
	}
}

func TestAtForms(t *testing.T) {
	tr := treeOf(t, 8, "a", "1", "b", "2")
	for _, c := range []struct {
		way string
		e   api.Errno
	}{
		{"x", api.ErrForm}, {"0x", api.ErrForm}, {"x0", api.ErrForm}, {"000x", api.ErrForm}, {"00x0", api.ErrForm}, {"2", api.ErrForm}, {"/", api.ErrForm},
		{"\x00", api.ErrForm}, {"\x01", api.ErrForm}, {"0\xff", api.ErrForm}, {"00", api.ErrPlace}, {"11", api.ErrPlace}, {strings.Repeat("01", 900), api.ErrPlace},
	} {
		if n, e := tr.At(c.way); e != c.e || n != (api.Node{}) {
			t.Errorf("T4: at %.10q: %v %d, not %d", c.way, n, e, c.e)
		}
	}
	if n, e := trie.New(8).At("0"); e != api.ErrPlace || n != (api.Node{}) {
		t.Errorf("T4: on in an empty tree: %v %d", n, e)
	}
	if _, e := trie.New(8).At("0a"); e != api.ErrForm {
		t.Errorf("T4: no way, in an empty tree: %d", e)
	}
	if n, e := trie.New(8).At(""); e != api.OK || n != (api.Node{Kind: api.Bare}) {
		t.Errorf("T4: at the top of an empty tree: %v %d", n, e)
	}
}

func TestOverAndTop(t *testing.T) {
	n := api.Node{Key: "k", Value: "v", Pos: 1<<40 + 258, Left: 1 << 60, Right: 3}
	for _, w := range []int{math.MinInt, -1, 0, 1, 2, 7, 8, 9, math.MaxInt} {
		for _, kind := range []int{math.MinInt, -1, api.Bare, api.Leaf, api.Fork, 3, math.MaxInt} {
			n.Kind = kind
			i := image(api.TagEntry, "k", "v")
			if kind == api.Fork {
				i = image(api.TagFork, "\x00\x00\x00\x01\x02", "\x10\x00\x00\x00\x00\x00\x00\x00", "\x00\x00\x00\x00\x00\x00\x00\x03")
			}
			over := digest.OfImage(w, i)
			if got := trie.Over(w, n); got != over {
				t.Errorf("T4: Over(%d, %v): %x, not %x", w, n, got, over)
			}
			top := digest.OfImage(w, image(api.TagTree, eight(over)))
			if kind == api.Bare {
				top = digest.OfImage(w, image(api.TagTree))
			}
			if got := trie.Top(w, n); got != top {
				t.Errorf("T4: Top(%d, %v): %x, not %x", w, n, got, top)
			}
		}
	}
}

func TestFreshLists(t *testing.T) {
	tr := treeOf(t, 8, "a", "1", "b", "2", "c", "3")
	p, _ := tr.Prove("a")
	q, _ := tr.Prove("a")
	p.Turns[0] = api.Turn{}
	if q.Turns[0] == p.Turns[0] {
		t.Error("P2: two proofs share their turns")
	}
	l := tr.Items("", -1)
	l[0].Value = "another"
	if tr.Get("a") != "1" || tr.Items("", -1)[0].Value != "1" {
		t.Error("P2: a tree hands out what it keeps")
	}
}

package state_test

import (
	"fmt"
	"maps"
	"math/rand"
	"slices"
	"strings"
	"testing"

	"assize/api"
	"assize/state"
	"assize/trie"
)

// model: a state as the chapter tells it: a whole map for each mark.
type model struct {
	now   map[string]string
	marks []map[string]string
}

func (m *model) set(key, value string) {
	if value == "" {
		delete(m.now, key)
	} else {
		m.now[key] = value
	}
}

func (m *model) mark() int {
	m.marks = append(m.marks, maps.Clone(m.now))
	return len(m.marks) - 1
}

func (m *model) end(mark int, undo bool) api.Errno {
	if mark < 0 || mark >= len(m.marks) {
		return api.ErrMark
	}
	if undo {
		m.now = m.marks[mark]
	}
	m.marks = m.marks[:mark]
	return api.OK
}

func treeOf(t *testing.T, m map[string]string) trie.Tree {
	t.Helper()
	tr := trie.New(8)
	for k, v := range m {
		x, e := tr.Put(k, v)
		if e != api.OK {
			t.Fatalf("Put(%q, %q): %d", k, v, e)
		}
		tr = x
	}
	return tr
}

func wants(t *testing.T, what string, got, want any) {
	t.Helper()
	if got != want {
		t.Fatalf("%s: %v, not %v", what, got, want)
	}
}

func TestStatesAsToldAnew(t *testing.T) {
	r := rand.New(rand.NewSource(4))
	keys := []string{"", "a", "b", "ab", "a\x00", "\xff", "abc", strings.Repeat("k", api.MaxKey)}
	for range 150 {
		m := &model{now: map[string]string{}}
		for range r.Intn(4) {
			m.set(keys[r.Intn(len(keys))], fmt.Sprint(r.Intn(3)))
		}
		begin := treeOf(t, m.now)
		root := begin.Root()
		s := state.New(begin)
		for range r.Intn(120) {
			k := keys[r.Intn(len(keys))]
			mark := r.Intn(len(m.marks)+3) - 1
			switch r.Intn(9) {
			case 0, 1, 2, 3:
				v := fmt.Sprint(r.Intn(3))[:min(1, r.Intn(4))]
				wants(t, "S1: Set", s.Set(k, v), api.OK)
				m.set(k, v)
			case 4:
				wants(t, "S2: Mark", s.Mark(), m.mark())
			case 5:
				wants(t, "S2: Undo", s.Undo(mark), m.end(mark, true))
			case 6:
				wants(t, "S2: Keep", s.Keep(mark), m.end(mark, false))
			case 7:
				wants(t, "S1: Tree", s.Tree().Root(), treeOf(t, m.now).Root())
			}
			for _, k := range keys {
				wants(t, fmt.Sprintf("S1: Get(%q)", k), s.Get(k), m.now[k])
			}
		}
		old := s.Tree()
		wants(t, "S1: Tree", old.Root(), treeOf(t, m.now).Root())
		s.Set("new", "new")
		wants(t, "P2: a tree that was handed out", old.Root(), treeOf(t, m.now).Root())
		wants(t, "P2: the tree that it began with", begin.Root(), root)
	}
}

func TestMarks(t *testing.T) {
	s := state.New(trie.New(8))
	for _, mark := range []int{-1 << 63, -1, 0, 1, 1<<63 - 1} {
		wants(t, "S2: Undo without marks", s.Undo(mark), api.ErrMark)
		wants(t, "S2: Keep without marks", s.Keep(mark), api.ErrMark)
	}
	s.Set("k", "0")
	for i := range 5 {
		wants(t, "S2: Mark", s.Mark(), i)
		s.Set("k", fmt.Sprint(i+1))
	}
	wants(t, "S2: Undo(5)", s.Undo(5), api.ErrMark)
	wants(t, "S2: Keep(5)", s.Keep(5), api.ErrMark)
	wants(t, "S2: an Undo that is refused", s.Get("k"), "5")
	wants(t, "S2: Keep(3)", s.Keep(3), api.OK)
	wants(t, "S2: what is kept", s.Get("k"), "5")
	wants(t, "S2: a mark made later", s.Undo(4), api.ErrMark)
	wants(t, "S2: the mark itself", s.Undo(3), api.ErrMark)
	wants(t, "S2: Mark behind", s.Mark(), 3)
	s.Set("k", "6")
	wants(t, "S2: Undo(2)", s.Undo(2), api.OK)
	wants(t, "S2: what was", s.Get("k"), "2")
	wants(t, "S2: Undo(0)", s.Undo(0), api.OK)
	wants(t, "S2: what was at first", s.Get("k"), "0")
	wants(t, "S2: no mark is left", s.Undo(0), api.ErrMark)
}

func TestUndoBehindTree(t *testing.T) {
	s := state.New(treeOf(t, map[string]string{"a": "1", "b": "2"}))
	first := s.Tree().Root()
	s.Mark()
	s.Set("a", "")
	s.Set("c", "3")
	wants(t, "S1: Tree", s.Tree().Root(), treeOf(t, map[string]string{"b": "2", "c": "3"}).Root())
	s.Set("b", "4")
	wants(t, "S2: Undo", s.Undo(0), api.OK)
	wants(t, "S2: Tree", s.Tree().Root(), first)
	wants(t, "S1: Get", s.Get("a")+s.Get("b")+s.Get("c"), "12")
}

func TestSetLimits(t *testing.T) {
	s := state.New(trie.New(8))
	full, big := strings.Repeat("k", api.MaxKey), strings.Repeat("v", api.MaxValue)
	wants(t, "S1: the longest", s.Set(full, big), api.OK)
	wants(t, "S1: Get", s.Get(full), big)
	root := s.Tree().Root()
	for _, c := range [][2]string{{full + "k", "v"}, {full + "k", ""}, {full, big + "v"}, {"k", big + "v"}} {
		wants(t, "S1: too long", s.Set(c[0], c[1]), api.ErrLimit)
	}
	wants(t, "S1: Get of a key that is too long", s.Get(full+"k"), "")
	wants(t, "S1: what is refused", s.Tree().Root(), root)
}

func TestManyStates(t *testing.T) {
	// Nothing is shared between two states of one tree.
	tr := treeOf(t, map[string]string{"a": "1"})
	x, y := state.New(tr), state.New(tr)
	x.Set("a", "2")
	x.Set("b", "3")
	wants(t, "P2: the other state", y.Get("a")+y.Get("b"), "1")
	l := slices.Clone(x.Tree().Items("", -1))
	y.Set("a", "9")
	wants(t, "P2: the one state", l[0].Value+x.Get("a"), "22")
}

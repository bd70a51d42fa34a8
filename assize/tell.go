package assize

import (
	"strconv"
	"strings"

	"assize/api"
	"assize/block"
	"assize/node"
	"assize/state"
	"assize/world"
)

// code tells what a call answers.
func code(e api.Errno) []string {
	if e == api.OK {
		return []string{"ok"}
	}
	return []string{named("error", int(e))}
}

// named is a number behind its name.
func named(name string, n int) string { return name + " " + strconv.Itoa(n) }

// row is a line of words.
func row(words ...string) string { return strings.Join(words, " ") }

// look tells where a node is, and each block that is final there.
func (s *session) look(who int) []string {
	n, e := s.world.Node(who)
	if e != api.OK {
		return code(e)
	}
	height, round, step := n.Height()
	l := []string{row(
		named("node", who), named("height", height), named("round", round), named("step", step),
		named("waiting", len(n.Waiting())), named("guilts", len(n.Guilts())),
	)}
	for i := range height {
		l = append(l, final(n, i+1))
	}
	return l
}

// final tells of a block that is final.
func final(n *node.Node, height int) string {
	k, _ := n.Final(height)
	t, _ := n.Tip(height)
	return row(strconv.Itoa(height), hex(t.Name(k.Block.Header)), strconv.Itoa(len(k.Block.Txs)))
}

// hex is a digest in 16 digits.
func hex(d api.Digest) string {
	s := strconv.FormatUint(uint64(d), 16)
	return strings.Repeat("0", 16-len(s)) + s
}

// account tells what one has, as a node sees it.
func (s *session) account(sees, who int) []string {
	n, e := s.world.Node(sees)
	if e != api.OK {
		return code(e)
	}
	a := state.New(lastTip(n).Tree()).Account(who)
	jailed := 0
	if a.Jailed {
		jailed = 1
	}
	return []string{row(
		named("account", who), named("balance", a.Balance), named("foreign", a.Foreign), named("nonce", a.Nonce),
		named("bond", a.Bond), named("leaving", a.Leaving), named("jailed", jailed),
	)}
}

// lastTip is the ledger behind a node's last block.
func lastTip(n *node.Node) block.Tip {
	height, _, _ := n.Height()
	t, _ := n.Tip(height)
	return t
}

// show tells what one believes to whom a node shows these heights, and what each of them was answered.
func (s *session) show(who int, heights []int) []string {
	if _, e := s.world.Node(who); e != api.OK {
		return code(e)
	}
	v, _ := world.View(s.genesis) // the world began with it
	v, answers := s.world.Show(who, v, heights)
	l := []string{named("believes", v.Height)}
	for _, e := range answers {
		l = append(l, code(e)...)
	}
	return l
}

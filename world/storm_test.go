package world_test

import (
	"math/rand"
	"slices"
	"testing"

	"assize/api"
	"assize/block"
	"assize/court"
	"assize/ledger"
	"assize/node"
	"assize/state"
	"assize/world"
)

// storm is a world whose net loses, doubles and turns about, whose nodes die
// at any act, and in which liars say what is worst for the others: unlike
// motions and votes to unlike nodes, and certs of what the others said.
type storm struct {
	*rand.Rand
	t             *testing.T
	g             api.Genesis
	w             *world.World
	liars, honest []int
	begins        block.Tip

	said    map[place]api.Vote // by those who are honest
	votes   []api.Vote         // all that were seen
	motions []api.Motion
	blocks  map[api.Digest]api.Block

	seen tally
}

// tally is what was seen, in one storm or in several.
type tally struct {
	falls, lies, splits, refused, blocks, jailed, whole, unlike int
}

func (a *tally) add(b tally) {
	a.falls, a.lies, a.splits, a.refused = a.falls+b.falls, a.lies+b.lies, a.splits+b.splits, a.refused+b.refused
	a.blocks, a.jailed, a.whole, a.unlike = a.blocks+b.blocks, a.jailed+b.jailed, a.whole+b.whole, a.unlike+b.unlike
}

// place is where one says something once.
type place struct {
	height, round, stage, from int
}

// newStorm: those who lie weigh less than that part of all (3: a third; 1: the whole).
func newStorm(t *testing.T, r *rand.Rand, width, part int) *storm {
	s := &storm{Rand: r, t: t, said: map[place]api.Vote{}, blocks: map[api.Digest]api.Block{}}
	s.g = api.Genesis{Chain: 1, Width: width, Epoch: 1 + r.Intn(4), Gas: 200 + r.Intn(800)}
	total, lying := 0, 0
	for i := range 4 + r.Intn(5) {
		x := api.Start{Who: i + 1, Balance: 500, Bond: 3 + r.Intn(9)}
		s.g.Starts = append(s.g.Starts, x)
		total += x.Bond
	}
	for _, x := range s.g.Starts {
		if r.Intn(2) == 0 && part*(lying+x.Bond) < total {
			s.liars = append(s.liars, x.Who)
			lying += x.Bond
		} else {
			s.honest = append(s.honest, x.Who)
		}
	}
	s.g.Starts = append(s.g.Starts, api.Start{Who: 50, Balance: 9000}, api.Start{Who: 51, Balance: 9000})
	s.begins = tipOf(t, s.g)
	s.w = begun(t, s.g, s.liars...)
	s.watch(0)
	return s
}

func one(r *rand.Rand, l []int) int { return l[r.Intn(len(l))] }

// watch hears what was put on its way behind the first ones, so many of which were there.
func (s *storm) watch(were int) {
	for i := were; i < s.w.Way(); i++ {
		m, _ := s.w.Peek(i)
		s.hears(m)
	}
}

// hears keeps what was said, and asks whether one who is honest says something unlike what it said there.
func (s *storm) hears(m api.Message) {
	for _, v := range m.Votes {
		s.keep(v, m.From)
	}
	for _, x := range m.Motions {
		s.keep(court.Moving(s.begins, x), m.From)
		s.motions = append(s.motions, x)
		s.blocks[s.begins.Name(x.Block.Header)] = x.Block
		for _, c := range x.Basis {
			s.keepAll(c, m.From)
		}
	}
	for _, k := range m.Knowns {
		s.keepAll(k.Cert, m.From)
	}
}

func (s *storm) keepAll(c api.Cert, from int) {
	for _, who := range c.Froms {
		s.keep(api.Vote{Height: c.Height, Round: c.Round, Stage: c.Stage, Has: c.Has, Block: c.Block, From: who}, from)
	}
}

func (s *storm) keep(v api.Vote, from int) {
	at := place{v.Height, v.Round, v.Stage, v.From}
	x, there := s.said[at]
	if slices.Contains(s.honest, v.From) {
		if there && x != v {
			s.t.Fatalf("X2 to X5: %d says that %d says %v, who said %v", from, v.From, v, x)
		}
		s.said[at] = v
	}
	if !there {
		s.votes = append(s.votes, v)
	}
}

// do does something to the world, of which so many that are on their way are taken off.
func (s *storm) do(takes int, what func()) {
	were := s.w.Way() - takes
	what()
	s.watch(were)
}

func (s *storm) tick(who int) { s.do(0, func() { s.w.Tick(who) }) }

func (s *storm) deliver(n int) { s.do(1, func() { s.w.Net(api.Deliver, n) }) }

// says lets a liar say something, to one or to all.
func (s *storm) says(m api.Message) {
	s.do(0, func() {
		if s.w.Lie(m) != api.OK {
			s.seen.refused++
		}
	})
	s.seen.lies++
}

// ahead is the node that is farthest.
func (s *storm) ahead() *node.Node {
	var best *node.Node
	for _, who := range s.w.Who() {
		n, e := s.w.Node(who)
		if e == api.OK && (best == nil || lastTip(n).Header().Height > lastTip(best).Header().Height) {
			best = n
		}
	}
	return best
}

// lie is what a liar says. Of what is drawn much is refused by those who hear it.
func (s *storm) lie() {
	n := s.ahead()
	if len(s.liars) == 0 || n == nil {
		return
	}
	tip := lastTip(n)
	_, round, _ := n.Height()
	round = max(0, round) + s.Intn(3)/2
	who := one(s.Rand, s.liars)
	switch k := s.Intn(10); {
	case k < 3:
		s.split(tip, round)
	case k < 6:
		s.sway(who, tip.Header().Height+1, round)
	case k < 8:
		s.certify(who)
	case k == 8 && len(s.motions) > 0:
		m := s.motions[max(0, len(s.motions)-1-s.Intn(9))]
		s.says(api.Message{From: who, To: s.Intn(2) * one(s.Rand, s.honest), Height: m.Block.Header.Height, Motions: []api.Motion{m}})
	default:
		// What is far ahead, or long ago.
		v := api.Vote{Height: max(1, tip.Header().Height+s.Intn(3)-1), Round: round + s.Intn(20), Stage: 1 + s.Intn(2), From: who}
		s.says(api.Message{From: who, Height: v.Height, Votes: []api.Vote{v}})
	}
}

// split: a liar who leads moves two blocks, one to some and one to others, and votes for both likewise.
func (s *storm) split(tip block.Tip, round int) {
	who := tip.Leader(round)
	if !slices.Contains(s.liars, who) {
		return
	}
	s.seen.splits++
	tx := api.Tx{Kind: api.Pay, From: who, Nonce: account(tip, who).Nonce, Limit: 16, To: 60, Amount: 1}
	var l []api.Message
	for _, txs := range [][]api.Tx{nil, {tx}} {
		b, _ := tip.Make(who, txs, nil)
		m := api.Motion{Round: round, From: who, Block: b}
		name := tip.Name(b.Header)
		x := api.Message{From: who, Height: b.Header.Height, Motions: []api.Motion{m}}
		for _, liar := range s.liars {
			for _, stage := range []int{api.First, api.Second} {
				x.Votes = append(x.Votes, api.Vote{Height: b.Header.Height, Round: round, Stage: stage, Has: true, Block: name, From: liar})
			}
		}
		l = append(l, x)
	}
	for _, to := range s.honest {
		m := l[s.Intn(2)]
		m.To = to
		s.says(m)
	}
}

// sway: liars vote for a block that was moved in this round, or for none, each to whom they like.
func (s *storm) sway(who, height, round int) {
	for _, to := range s.honest {
		v := api.Vote{Height: height, Round: round, Stage: 1 + s.Intn(2), From: who}
		for i := len(s.motions) - 1; i >= 0 && i > len(s.motions)-8; i-- {
			m := s.motions[i]
			if m.Block.Header.Height == height && s.Intn(3) > 0 {
				v.Has, v.Block = true, s.begins.Name(m.Block.Header)
			}
		}
		if s.Intn(3) > 0 {
			s.says(api.Message{From: who, To: to, Height: height, Votes: []api.Vote{v}})
		}
	}
}

// certify: what some said, with the votes of all liars, is shown to one as a cert.
func (s *storm) certify(who int) {
	if len(s.votes) == 0 {
		return
	}
	v := s.votes[max(0, len(s.votes)-1-s.Intn(40))]
	b, there := s.blocks[v.Block]
	if !v.Has || v.Stage == api.Moves || !there {
		return
	}
	c := api.Cert{Height: v.Height, Round: v.Round, Stage: v.Stage, Has: true, Block: v.Block}
	for _, x := range s.w.Who() {
		u := v
		u.From = x
		if slices.Contains(s.liars, x) || s.said[place{v.Height, v.Round, v.Stage, x}] == u {
			c.Froms = append(c.Froms, x)
		}
	}
	if len(c.Froms) > api.MaxSeats {
		c.Froms = c.Froms[:api.MaxSeats]
	}
	s.says(api.Message{From: who, To: one(s.Rand, s.honest), Height: v.Height, Knowns: []api.Known{{Cert: c, Block: b}}})
}

// submit: somebody pays, or changes what it has at stake.
func (s *storm) submit() {
	n := s.ahead()
	if n == nil {
		return
	}
	t := api.Tx{Kind: api.Pay, From: 50 + s.Intn(2), Price: s.Intn(3), Limit: 16, To: 60, Amount: 1}
	switch s.Intn(5) {
	case 0:
		t.Kind, t.From, t.To, t.Amount = api.Bond, one(s.Rand, s.honest), 0, 1+s.Intn(3)
	case 1:
		t.Kind, t.From, t.To, t.Amount = api.Leave, one(s.Rand, s.w.Who()), 0, 1
	case 2:
		t.Kind, t.From, t.To, t.Amount = api.Free, one(s.Rand, s.w.Who()), 0, 0
	}
	t.Nonce = account(lastTip(n), t.From).Nonce + s.Intn(5)/3
	s.w.Submit(one(s.Rand, s.w.Who()), t)
}

// blows does something, whatever comes.
func (s *storm) blows(loss int) {
	who := one(s.Rand, s.w.Who())
	switch k := s.Intn(64); {
	case k < 12:
		s.tick(who)
	case k < 16:
		s.lie()
	case k == 16 && s.Intn(2) == 0:
		s.submit()
	case k == 17:
		s.w.Stop(who, s.Intn(7), s.Intn(600))
	case k < 21:
		if s.w.Begin(who) == api.OK {
			s.seen.falls++
			s.watch(max(0, s.w.Way()-2*len(s.w.Who())))
		}
	case s.w.Way() > 0:
		n := -1 - s.Intn(min(80, s.w.Way())) // what is old comes late, if at all
		if s.Intn(12) == 0 {
			s.w.Net(api.Double, n)
		}
		if s.Intn(10) >= loss {
			s.deliver(n)
		} else {
			s.w.Net(api.Drop, n)
		}
		for s.w.Way() > 1000 {
			s.w.Net(api.Drop, 0)
		}
	}
}

// nodes are those that do not lie, and are up.
func (s *storm) nodes() []*node.Node {
	var l []*node.Node
	for _, who := range s.honest {
		if n, e := s.w.Node(who); e == api.OK {
			l = append(l, n)
		}
	}
	return l
}

// agree asks whether all who do not lie have the same blocks, as far as they
// have some, whether money is kept, and whether those who are jailed lied. It
// tells whether there is more to be asked: whether liars were under a third of
// each bench, and no digest clashed.
func (s *storm) agree() bool {
	s.t.Helper()
	for _, n := range s.nodes() {
		s.honours(n)
	}
	for h, l := range s.tips() {
		for _, tip := range l {
			if tip.Header() != l[0].Header() {
				s.seen.unlike++
				if tip.Name(l[0].Header()) != tip.Name(tip.Header()) {
					s.t.Fatalf("two have unlike blocks at the height %d: %v and %v", h, l[0].Header(), tip.Header())
				}
				return false
			}
		}
		if !s.w.Honest(l[0]) {
			return false
		}
	}
	return true
}

// tips are, of each height, the ledgers that those who do not lie have behind it.
func (s *storm) tips() [][]block.Tip {
	var l [][]block.Tip
	for _, n := range s.nodes() {
		height, _, _ := n.Height()
		for h := range height + 1 {
			if h == len(l) {
				l = append(l, nil)
			}
			tip, _ := n.Tip(h)
			l[h] = append(l[h], tip)
		}
	}
	return l
}

// honours asks whether by a node money is kept, and whether those who are accused lied.
func (s *storm) honours(n *node.Node) {
	s.t.Helper()
	tip := lastTip(n)
	own, _ := state.Money(s.begins.Tree())
	if got, _ := state.Money(tip.Tree()); got != own {
		s.t.Fatalf("money is not kept: %d, not %d", got, own)
	}
	for _, who := range s.honest {
		if account(tip, who).Jailed {
			s.t.Fatalf("%d is jailed, and did not lie", who)
		}
	}
	for _, g := range n.Guilts() {
		if !slices.Contains(s.liars, g.A.From) {
			s.t.Fatalf("%v is said to be guilt, but %d is honest", g, g.A.From)
		}
	}
}

// rise: all are up, and no log dies any more.
func (s *storm) rise() {
	for _, who := range s.w.Who() {
		s.w.Begin(who)
		s.w.Stop(who, top, 0)
	}
}

// calm is Calm(1), of which all is heard.
func (s *storm) calm() {
	s.tick(0)
	for i := 0; i < 20000 && s.w.Way() > 0; i++ {
		s.deliver(0)
	}
}

// settled: has each one so many blocks, and was all applied that can be, of what its node sends on?
func (s *storm) settled(height int) bool {
	tip := lastTip(s.ahead())
	env := api.Env{Height: tip.Header().Height + 1, Epoch: s.g.Epoch, Proposer: 1}
	for _, who := range s.w.Who() {
		n := up(s.t, s.w, who)
		if h, _, _ := n.Height(); h < height {
			return false
		}
		l := n.Waiting()
		for _, t := range l[:min(len(l), api.MaxTxs)] {
			if _, e := ledger.Apply(state.New(tip.Tree()), env, t); e == api.OK {
				return false
			}
		}
	}
	return true
}

// rages: is there more to be asked behind a storm that was drawn?
func (s *storm) rages() bool {
	loss := s.Intn(5)
	for range s.Intn(400) {
		for range 8 {
			s.blows(loss)
		}
		if !s.agree() {
			return false
		}
	}
	return true
}

// goesOn: the storm is over, and though now and then somebody lies all get on.
func (s *storm) goesOn() bool {
	s.t.Helper()
	s.rise()
	height := lastTip(s.ahead()).Header().Height
	s.seen.blocks = height
	for turns := 0; !s.settled(height + 3); turns++ {
		if turns > 300 {
			for _, who := range s.w.Who() {
				s.t.Errorf("%s", look(s.t, s.w, who))
			}
			s.t.Fatalf("it does not go on: of %v, with the liars %v", s.g, s.liars)
		}
		if s.Intn(3) == 0 {
			s.lie()
		}
		s.calm()
		if !s.agree() {
			return false
		}
	}
	s.seen.whole++
	for _, who := range s.liars {
		if account(lastTip(s.ahead()), who).Jailed {
			s.seen.jailed++
		}
	}
	return true
}

func TestStorms(t *testing.T) {
	r := rand.New(rand.NewSource(41))
	var sum tally
	for range 50 {
		s := newStorm(t, r, 4+r.Intn(5), 3)
		if s.rages() {
			s.goesOn()
		}
		sum.add(s.seen)
	}
	if sum.unlike > 0 || sum.refused > 0 {
		t.Errorf("X5: %d lies of what was said were refused, %d blocks are unlike", sum.refused, sum.unlike)
	}
	if sum.falls < 300 || sum.lies < 3000 || sum.splits < 100 || sum.blocks < 60 || sum.jailed < 30 || sum.whole < 40 {
		t.Errorf("what is drawn comes to little: %+v", sum)
	}
}

// With digests of one byte or two, unlike blocks may have one Name.
func TestStormsOfNarrowDigests(t *testing.T) {
	r := rand.New(rand.NewSource(42))
	var sum tally
	for range 30 {
		s := newStorm(t, r, 1+r.Intn(2), 3)
		s.rages()
		sum.add(s.seen)
	}
	if sum.falls < 100 || sum.lies < 1000 || sum.splits < 30 {
		t.Errorf("what is drawn comes to little: %+v", sum)
	}
}

// What is drawn is bad enough: liars that weigh more lead others astray.
func TestStormsOfMoreLiars(t *testing.T) {
	r := rand.New(rand.NewSource(43))
	unlike := 0
	for range 40 {
		s := newStorm(t, r, 8, 1)
		for range 100 {
			for range 8 {
				s.blows(1)
			}
		}
		for _, n := range s.nodes() {
			s.honours(n)
		}
		for _, l := range s.tips() {
			if slices.ContainsFunc(l, func(tip block.Tip) bool { return tip.Header() != l[0].Header() }) {
				unlike++
			}
		}
	}
	if unlike == 0 {
		t.Error("what is drawn comes to little: nobody was led astray")
	}
}

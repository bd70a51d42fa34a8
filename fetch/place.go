package fetch

import "assize/api"

// place: where a way ends. At one with nothing below it a node is wanted; a fork came to all others.
// A fork with nothing left below it is cut off: what came is not asked for again.
type place struct {
	digest api.Digest // which its node is to have; at the top the tree
	above  *place     // nil at the top
	sides  [2]*place
}

func (p *place) isEnd() bool { return p.sides[0] == nil && p.sides[1] == nil }

// fork: a fork came, which says what its two sides are to have.
func (p *place) fork(left, right api.Digest) {
	p.sides[0] = &place{digest: left, above: p}
	p.sides[1] = &place{digest: right, above: p}
}

func (p *place) cut(side *place) {
	if p.sides[0] == side {
		p.sides[0] = nil
	} else {
		p.sides[1] = nil
	}
}

// wanted is the place to which a way leads; nil, if no node is wanted there.
func (f *Fetch) wanted(way string) *place {
	p := f.top
	for i := range len(way) {
		if p == nil || way[i] != '0' && way[i] != '1' {
			return nil
		}
		p = p.sides[way[i]-'0']
	}
	if p == nil || !p.isEnd() {
		return nil
	}
	return p
}

// end: nothing is wanted at an end any more. So the forks above it may be ends now, at which nothing is either.
func (f *Fetch) end(p *place) {
	for p.isEnd() && p.above != nil {
		p.above.cut(p)
		p = p.above
	}
	if p.isEnd() {
		f.top = nil
	}
}

// ways goes through the ways of the nodes that are wanted, in the order of bytes.
func (f *Fetch) ways(yield func(string) bool) {
	if f.top != nil {
		f.top.each(nil, yield)
	}
}

// each goes through those behind a way, until yield has enough; then it is false.
func (p *place) each(way []byte, yield func(string) bool) bool {
	if p.isEnd() {
		return yield(string(way))
	}
	for at, side := range p.sides {
		if side != nil && !side.each(append(way, '0'+byte(at)), yield) {
			return false
		}
	}
	return true
}

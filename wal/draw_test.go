package wal_test

import (
	"math/rand"
	"testing"

	"assize/api"
	"assize/wal"
)

// plain is a log as the chapter tells it, told once more: its frames one by
// one, and what is torn behind them.
type plain struct {
	t      *testing.T
	whole  []api.Record
	torn   string
	safe   int
	isDown bool
	acts   int // to be done, until it dies
	armed  bool
	keep   int
}

func (p *plain) bytes() string { return framesOf(p.t, p.whole) + p.torn }

func (p *plain) die(keep int) {
	if p.isDown {
		return
	}
	size := len(p.bytes())
	if keep < 0 {
		keep = 0
	}
	if p.safe+keep < size {
		size = p.safe + keep
	}
	if size < len(p.bytes()) {
		n := 0
		for n < len(p.whole) && len(framesOf(p.t, p.whole[:n+1])) <= size {
			n++
		}
		p.torn = p.bytes()[len(framesOf(p.t, p.whole[:n])):size]
		p.whole = p.whole[:n]
	}
	p.safe, p.isDown, p.armed = size, true, false
}

// act: does it die at this one?
func (p *plain) act() bool {
	if p.armed {
		p.acts--
		if p.acts == 0 {
			p.die(p.keep)
			return true
		}
	}
	return false
}

func (p *plain) append(x api.Record) api.Errno {
	if p.isDown {
		return api.ErrDown
	}
	p.whole = append(p.whole, x)
	if p.act() {
		return api.ErrDown
	}
	return api.OK
}

func (p *plain) sync() api.Errno {
	if p.isDown || p.act() {
		return api.ErrDown
	}
	p.safe = len(p.bytes())
	return api.OK
}

func (p *plain) arm(n, keep int) { p.acts, p.armed, p.keep = n, n >= 1, keep }

func (p *plain) begin() []api.Record {
	p.die(len(p.bytes()))
	p.torn, p.isDown = "", false
	p.safe = len(p.bytes())
	return p.whole
}

func TestLogsAsToldAnew(t *testing.T) {
	r := rand.New(rand.NewSource(20))
	deaths, tears := 0, 0
	records := append(kinds(), ballot(1), ballot(api.MaxNumber))
	for range 600 {
		log, p := wal.New(), &plain{t: t}
		for range r.Intn(40) {
			var e, f api.Errno
			var l, m []api.Record
			up := !p.isDown
			switch r.Intn(9) {
			case 0, 1:
				e, f = log.Sync(), p.sync()
			case 2:
				n, keep := r.Intn(8)-2, r.Intn(600)-50
				log.Arm(n, keep)
				p.arm(n, keep)
			case 3:
				keep := r.Intn(600) - 50
				log.Die(keep)
				p.die(keep)
			case 4:
				if p.torn != "" {
					tears++
				}
				l, m = log.Begin(), p.begin()
			default:
				x := records[r.Intn(len(records))]
				e, f = log.Append(x), p.append(x)
			}
			if up && p.isDown {
				deaths++
			}
			s, n := log.Bytes()
			if e != f || !sameRecords(t, l, m) || s != p.bytes() || n != p.safe || log.Down() != p.isDown {
				t.Fatalf("A1 to A3: %d %v %x %d %v, not %d %v %x %d %v", e, l, s, n, log.Down(), f, m, p.bytes(), p.safe, p.isDown)
			}
		}
	}
	if deaths < 300 || tears < 50 {
		t.Errorf("what is drawn comes to little: %d deaths, %d tears", deaths, tears)
	}
}

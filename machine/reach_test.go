package machine_test

import (
	"fmt"
	"strings"
	"testing"

	"assize/api"
	"assize/machine"
	"assize/state"
)

// asked: what the tests ask of the contract `other`.
const asked = `contract asked {
	slot n: num;
	open fn g() -> num { return 70; }
	open fn two(a: num, b: num) -> num { return a * 10 + b; }
	open fn eight(a: num, b: num, c: num, d: num, e: num, f: num, x: num, h: num) -> num { return a * 100 + h; }
	open fn who_am() -> num { return num(self) - num(caller); }
	open fn paid() -> num { return value * 1000 + balance(self); }
	open fn high() -> num { return height; }
	open fn keep() -> num { n = n + 1; return n; }
	open fn fail() -> num { n = 99; note 1; need false; return 5; }
	open fn loop() -> num { n = 99; note 1; while true { } return 5; }
	open fn tell(k: num) -> num { while k > 0 { note k; k = k - 1; } return 6; }
	open fn spend() -> num { pay caller, 20; return 8; }
	fn shut() -> num { return 1; }
}`

// asks: a body that asks whom by the name `name` (it stands at 0), with these numbers pushed: the arguments, the value, the gas.
func asks(whom int, name string, numbers ...int) api.Code {
	body := fmt.Sprint("Push ", whom)
	for _, n := range numbers {
		body += fmt.Sprint(", Push ", n)
	}
	// What is left is told: above it whether it was done, below the value.
	c := one(0, 0, fmt.Sprint(body, ", Reach ", len(numbers)-2, " 0, Push 1000000, Times, Plus, Back"))
	c.Names = []string{name}
	return c
}

// M5: what an ask leaves, and what it costs: 16, the pushes, what was used, and four behind it.
func TestReach(t *testing.T) {
	for _, x := range []struct {
		why     string
		whom    int
		name    string
		numbers []int
		want    string
	}{
		{"a function", other, "g", []int{0, 100}, "done 1000070 used 25"},
		{"just its gas", other, "g", []int{0, 2}, "done 1000070 used 25"},
		{"less than its gas", other, "g", []int{0, 1}, "done 0 used 24"},
		{"no gas", other, "g", []int{0, 0}, "done 0 used 23"},
		{"all gas that is left", other, "g", []int{0, 1000 - 19}, "done 1000070 used 25"},
		{"one more than is left", other, "g", []int{0, 1000 - 18}, "out used 1000"},
		{"much more than is left", other, "g", []int{0, api.MaxNumber}, "out used 1000"},
		{"more than is left, of nobody", nobody, "g", []int{0, 1000 - 18}, "out used 1000"},
		{"two arguments, the lower one first", other, "two", []int{3, 4, 0, 100}, "done 1000034 used 31"},
		{"eight arguments", other, "eight", []int{1, 2, 3, 4, 5, 6, 7, 8, 0, 100}, "done 1000108 used 37"},
		{"too few", other, "two", []int{3, 0, 100}, "done 0 used 24"},
		{"too many", other, "two", []int{3, 4, 5, 0, 100}, "done 0 used 26"},
		{"from this contract", other, "who_am", []int{0, 100}, "done 1000001 used 27"},
		{"a value", other, "paid", []int{7, 100}, "done 1007057 used 33"},
		{"all that it has", other, "paid", []int{50, 100}, "done 1050100 used 33"},
		{"more than it has", other, "paid", []int{51, 100}, "done 0 used 23"},
		{"the same height", other, "high", []int{0, 100}, "done 1000009 used 25"},
		{"what is kept", other, "keep", []int{0, 100}, "done 1000001 used 42"},
		{"what fails", other, "fail", []int{9, 100}, "done 0 used 39"},
		{"what is out", other, "loop", []int{9, 100}, "done 0 used 123"},
		{"one that is not open", other, "shut", []int{0, 100}, "done 0 used 23"},
		{"none", other, "none", []int{9, 100}, "done 0 used 23"},
		{"none at all", other, "", []int{9, 100}, "done 0 used 23"},
		{"nobody", nobody, "g", []int{0, 100}, "done 1000000 used 23"},
		{"nobody, with a value", nobody, "g", []int{9, 0}, "done 1000000 used 23"},
		{"nobody, with more than it has", nobody, "g", []int{51, 0}, "done 0 used 23"},
		{"one who pays", other, "spend", []int{0, 100}, "done 1000008 used 43"},
		{"notes", other, "tell", []int{2, 0, 100}, "done 1000006 used 58 note 2:2 note 2:1"},
	} {
		s := begun("", asked)
		must(t, "M5: "+x.why, runs(t, s, asks(x.whom, x.name, x.numbers...), job()), x.want)
		mustHave(t, x.why, s, x.name, x.want, x.numbers[len(x.numbers)-2])
	}
}

// mustHave: what an ask has changed: the value went over if it was done, else nothing did.
func mustHave(t *testing.T, why string, s *state.State, name, want string, value int) {
	t.Helper()
	done := strings.HasPrefix(want, "done 1")
	if !done {
		value = 0
	}
	if done && name == "spend" {
		value = -20
	}
	if got := s.Account(me).Balance; got != 50-value {
		t.Errorf("M5: %s: who asks has %d", why, got)
	}
	kept := 0
	if done && name == "keep" {
		kept = 1
	}
	if got := s.Word(other, 0, 0); got != kept {
		t.Errorf("M5: %s: who is asked has kept %d", why, got)
	}
}

// M5: the value is left below, and whether it was done above.
func TestReachLeaves(t *testing.T) {
	c := asks(other, "g", 0, 100)
	c.Pieces[0].Body = instrs(fmt.Sprint("Push ", other, ", Push 0, Push 100, Reach 0 0, Pop, Back"))
	must(t, "M5", runs(t, begun("", asked), c, job()), "done 70 used 23")
	c.Pieces[0].Body = instrs(fmt.Sprint("Push 5, Push ", other, ", Push 0, Push 100, Reach 0 0, Store 0, Pop, Pop, Load 0, Back"))
	c.Pieces[0].Locals = 1
	must(t, "M5", runs(t, begun("", asked), c, job()), "done 1 used 27")
}

// chain: contracts, each of which asks the next one, and a last one; each gives less gas than it has.
func chain(n int, last string) []string {
	var l []string
	for i := range n {
		l = append(l, fmt.Sprint("contract c { open fn f() -> num { let ok: flag = false; let r: num = 0; ask ok, r = who(", me+i+1, ").f() value 1 gas ", 9000-100*i, "; if ok { return r + 1; } return 0; } }"))
	}
	return append(l, last)
}

// M5: MaxAsks contracts may be under way, one within the other: the eighth asks in vain, even one who has no text.
func TestAsks(t *testing.T) {
	for last, worth := range map[string]int{"contract c { open fn f() -> num { return 40; } }": 40, "": 0} {
		for _, n := range []int{1, 6, 7, 8, 9, 12} {
			s := begun(chain(n, last)...)
			j := job()
			j.Gas = 10000
			o := calls(t, s, j)
			want, reached := worth+n, n
			if n > 7 {
				want, reached = 7, 7
			}
			if o.Kind != api.Done || o.Value != want {
				t.Errorf("M5: %d contracts ask, the last is %q: %s, not done %d", n, last, shown(o), want)
			}
			if s.Account(me+reached).Balance != 51 || reached < n && s.Account(me+reached+1).Balance != 50 {
				t.Errorf("M5: %d contracts ask, the last is %q: the value did not go as far as it should", n, last)
			}
		}
	}
}

// M5: those that are done with are under way no more.
func TestAsksOneBehindAnother(t *testing.T) {
	const text = "contract c { open fn f() -> num { let ok: flag = false; let r: num = 0; let sum: num = 0; while sum < 700 { ask ok, r = who(549755813890).g() value 0 gas 50; need ok; sum = sum + r; } return sum; } }"
	if o := calls(t, begun(text, asked), job()); o.Value != 700 {
		t.Errorf("M5: %s", shown(o))
	}
}

// M5: notes of who was asked stand among one's own; together there are MaxNotes at most, and who was asked may have as many.
func TestNotesOfOthers(t *testing.T) {
	const text = "contract c { open fn f(a: num, k: num, b: num) -> num { let ok: flag = false; let r: num = 0; while a > 0 { note 500 + a; a = a - 1; } ask ok, r = who(549755813890).tell(k) value 0 gas 3000; need ok; while b > 0 { note 700 + b; b = b - 1; } return r; } }"
	for _, x := range []struct {
		a, k, b int
		want    string
	}{{1, 2, 1, "done"}, {0, 64, 0, "done"}, {1, 63, 0, "done"}, {0, 63, 1, "done"}, {1, 64, 0, "failed"}, {0, 64, 1, "failed"}, {64, 0, 0, "done"}, {64, 1, 0, "failed"}, {60, 2, 2, "done"}, {60, 2, 3, "failed"}, {0, 65, 0, "failed"}} {
		s := begun(text, asked)
		j := job(x.a, x.k, x.b)
		j.Gas = 10000
		o := calls(t, s, j)
		want := ""
		if x.want == "done" {
			for i := range x.a {
				want += fmt.Sprint(" note 1:", 500+x.a-i)
			}
			for i := range x.k {
				want += fmt.Sprint(" note 2:", x.k-i)
			}
			for i := range x.b {
				want += fmt.Sprint(" note 1:", 700+x.b-i)
			}
			want = fmt.Sprint("done 6 used ", o.Used, want)
		} else {
			want = fmt.Sprint("failed used ", o.Used)
		}
		must(t, fmt.Sprint("M5: notes ", x.a, x.k, x.b), o, want)
	}
	// It fails where they are noted: what was used is paid, and nothing behind it.
	c := asks(other, "tell", 64, 0, 3000)
	c.Pieces[0].Body = append(instrs("Push 9, Say"), c.Pieces[0].Body...)
	j := job()
	j.Gas = 10000
	must(t, "M5: too many with them", runs(t, begun("", asked), c, j), fmt.Sprint("failed used ", 5+4+16+64*14+6))
	// Notes of one that failed, or was out, are none.
	for _, name := range []string{"fail", "loop"} {
		if o := runs(t, begun("", asked), asks(other, name, 0, 100), job()); len(o.Notes) > 0 || o.Kind != api.Done {
			t.Errorf("M6: notes of %s: %s", name, shown(o))
		}
	}
}

// M5, M2: what failed within is undone, what was done around it and behind it stays; if who asked fails, all is undone.
func TestWithin(t *testing.T) {
	const text = `contract c { slot n: num; open fn f(w: who, good: num, bad: num, end: flag) -> num {
		let ok: flag = false; let r: num = 0;
		n = 5; pay who(77), 10;
		while good > 0 { ask ok, r = w.keep() value 1 gas 60; need ok; good = good - 1; }
		while bad > 0 { ask ok, r = w.fail() value 1 gas 60; need not ok and r == 0; bad = bad - 1; }
		n = n + 1; need end; return r; } }`
	for _, x := range []struct {
		good, bad, end int
		want           string // the outcome; words of both; balances of both and of nobody
	}{{2, 3, 1, "done 6 2 38 52 10"}, {0, 3, 1, "done 6 0 40 50 10"}, {3, 0, 1, "done 6 3 37 53 10"}, {2, 3, 0, "failed 0 0 50 50 0"}, {0, 0, 0, "failed 0 0 50 50 0"}} {
		s := begun(text, asked)
		o := calls(t, s, job(other, x.good, x.bad, x.end))
		got := fmt.Sprint(strings.Fields(shown(o))[0], " ", s.Word(me, 0, 0), " ", s.Word(other, 0, 0), " ", s.Account(me).Balance, " ", s.Account(other).Balance, " ", s.Account(nobody).Balance)
		if got != x.want {
			t.Errorf("M5: %v: %s", x, got)
		}
	}
}

// M5: who is asked may ask back: it meets what was done by then, and its own deeds last with its caller's.
func TestAskingBack(t *testing.T) {
	const text = `contract c { slot n: num;
		open fn f(end: flag) -> num { let ok: flag = false; let r: num = 0; n = 5; ask ok, r = who(549755813890).back(end) value 0 gas 300; return n * 100 + r; }
		open fn again() -> num { n = n + 3; return n; } }`
	const back = `contract d { open fn back(end: flag) -> num { let ok: flag = false; let r: num = 0; ask ok, r = caller.again() value 0 gas 100; need ok and end; return r; } }`
	for end, want := range map[int]int{1: 808, 0: 500} {
		if o := calls(t, begun(text, back), job(end)); o.Kind != api.Done || o.Value != want {
			t.Errorf("M5: asking back, %d: %s, not %d", end, shown(o), want)
		}
	}
	// It may ask itself.
	const self = "contract c { open fn f(n: num) -> num { let ok: flag = false; let r: num = 0; if n == 0 { return 1000; } ask ok, r = self.f(n - 1) value 1 gas n * 200; return r + 1; } }"
	for n, want := range map[int]int{0: 1000, 3: 1003, 7: 1007, 8: 8} {
		j := job(n)
		j.Gas = 5000
		if o := calls(t, begun(self), j); o.Value != want {
			t.Errorf("M5: it asks itself %d times: %s, not %d", n, shown(o), want)
		}
	}
}

// M7: the code stands in the place of that of To in this call alone: whoever asks back meets the text.
func TestRunAndAskBack(t *testing.T) {
	const text = "contract c { open fn again() -> num { return 11; } }"
	const back = "contract d { open fn back() -> num { let ok: flag = false; let r: num = 0; ask ok, r = caller.again() value 0 gas 100; if ok { return r; } return 99; } }"
	c := asks(other, "back", 0, 200)
	c.Pieces = append(c.Pieces, api.Piece{Name: "again", Open: true, Body: instrs("Push 22, Back")})
	for text, want := range map[string]int{text: 1000011, "": 1000000, "?": 1000099} {
		if o := runs(t, begun(text, back), c, job()); o.Value != want {
			t.Errorf("M7: asking back to %q: %s, not %d", text, shown(o), want)
		}
	}
}

// P1: a contract that asks and asks ends, and soon: it is not read anew each time.
func TestManyAsks(t *testing.T) {
	const text = "contract c { open fn f() -> num { let ok: flag = false; let r: num = 0; while true { ask ok, r = who(549755813890).none() value 0 gas 0; } return 1; } }"
	s := begun(text, long(2048))
	for range 20 {
		must(t, "P1", machine.Call(s, api.Job{From: giver, To: me, Text: "f", Gas: api.MaxGas}), "out used 65536")
	}
}

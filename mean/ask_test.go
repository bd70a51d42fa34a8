package mean_test

import (
	"fmt"
	"strings"
	"testing"

	"assize/api"
	"assize/mean"
	"assize/state"
)

// asked: what the tests ask of the contract `other`.
const asked = `contract asked {
	slot n: num;
	open fn g() -> num { return 70; }
	open fn two(a: num, b: num) -> num { return a * 10 + b; }
	open fn eight(a: num, b: num, c: num, d: num, e: num, f: num, x: num, h: num) -> num { return a * 100 + h; }
	open fn who_am() -> num { return num(self) - num(caller); }
	open fn paid() -> num { return value * 1000 + balance(self); }
	open fn high() -> num { return height; }
	open fn keep() -> num { n = n + 1; return n; }
	open fn fail() -> num { n = 99; note 1; need false; return 5; }
	open fn loop() -> num { n = 99; note 1; while true { } return 5; }
	open fn tell(k: num) -> num { while k > 0 { note k; k = k - 1; } return 6; }
	open fn spend() -> num { pay caller, 20; return 8; }
	open fn flag5(a: flag) -> flag { return a; }
	fn shut() -> num { return 1; }
}`

// asking: a contract that asks so, and tells whether it was done and what was answered.
func asking(ask string) string {
	return "contract c { fn pass(n: num) -> num { note n; return n; } open fn f(w: who) -> num { let ok: flag = true; let r: num = 9; ask ok, r = " + ask + "; if ok { return 1000 + r; } return r; } }"
}

// N2, N3: an ask: 4 for its lets, the parts, 16, what was used, 2; behind it 6 where it was done, else 4.
func TestAsk(t *testing.T) {
	for _, x := range []struct {
		why, ask string
		want     string
	}{
		{"a function", "w.g() value 0 gas 100", "done 1070 used 33"},
		{"just its gas", "w.g() value 0 gas 2", "done 1070 used 33"},
		{"less than its gas", "w.g() value 0 gas 1", "done 0 used 30"},
		{"all gas that is left", "w.g() value 0 gas 977", "done 1070 used 33"},
		{"one more than is left", "w.g() value 0 gas 978", "out used 1000"},
		{"much more than is left", "w.g() value 0 gas 1099511627775", "out used 1000"},
		{"more than is left, of nobody", "who(77).g() value 0 gas 978", "out used 1000"},
		{"two arguments", "w.two(3, 4) value 0 gas 100", "done 1034 used 39"},
		{"eight arguments", "w.eight(1, 2, 3, 4, 5, 6, 7, 8) value 0 gas 100", "done 1108 used 45"},
		{"too few", "w.two(3) value 0 gas 100", "done 0 used 30"},
		{"too many", "w.two(3, 4, 5) value 0 gas 100", "done 0 used 32"},
		{"from this contract", "w.who_am() value 0 gas 100", "done 1001 used 35"},
		{"a value", "w.paid() value 7 gas 100", "done 8057 used 41"},
		{"more than it has", "w.paid() value 51 gas 100", "done 0 used 29"},
		{"the same height", "w.high() value 0 gas 100", "done 1009 used 33"},
		{"what is kept", "w.keep() value 0 gas 100", "done 1001 used 50"},
		{"what fails", "w.fail() value 9 gas 100", "done 0 used 45"},
		{"what is out", "w.loop() value 9 gas 100", "done 0 used 129"},
		{"one that is not open", "w.shut() value 0 gas 100", "done 0 used 29"},
		{"none", "w.none() value 0 gas 100", "done 0 used 29"},
		{"nobody", "who(77).g() value 9 gas 0", "done 1000 used 31"},
		{"one who pays", "w.spend() value 0 gas 100", "done 1008 used 51"},
		{"notes", "w.tell(2) value 0 gas 100", "done 1006 used 66 note 2:2 note 2:1"},
		{"a flag that is answered", "w.flag5(not ok) value 0 gas 100", "done 1000 used 35"},
		{"whom, the arguments, the value, the gas, in this order", "who(549755813890 - pass(1) + 1).two(pass(2), pass(3)) value pass(4) gas pass(100)", "done 1023 used 88 note 1:1 note 1:2 note 1:3 note 1:4 note 1:100"},
		{"an argument that fails", "w.two(1 / 0, pass(3)) value pass(4) gas pass(100)", "failed used 8"},
		{"a value that fails", "w.two(3, pass(4)) value 1 / 0 gas pass(100)", "failed used 19"},
	} {
		allGasOfAsk(t, "N2, N3: "+x.why, asking(x.ask), x.want)
	}
}

// allGasOfAsk: with less gas it is out; with more the same, but where all gas that is left is asked for.
func allGasOfAsk(t *testing.T, why, text, want string) {
	t.Helper()
	before := begun(text, asked)
	o, _ := called(t, before, job(other))
	must(t, why, o, want)
	for gas := range 200 {
		j := job(other)
		j.Gas = gas
		if o, _ := called(t, before, j); o.Kind != api.Out && shown(o) != want || o.Kind == api.Out && o.Used != gas {
			t.Fatalf("%s, with gas %d: %s", why, gas, shown(o))
		}
	}
}

// N2: what an ask has changed stays just where it was done.
func TestAskChanges(t *testing.T) {
	for ask, want := range map[string]string{
		"w.keep() value 3 gas 100": "1 47 53", "w.fail() value 3 gas 100": "0 50 50", "w.loop() value 3 gas 100": "0 50 50", "w.keep() value 3 gas 10": "0 50 50", "w.none() value 3 gas 10": "0 50 50", "w.spend() value 3 gas 100": "0 67 33",
	} {
		_, tree := called(t, begun(asking(ask), asked), job(other))
		s := state.New(tree)
		if got := fmt.Sprint(s.Word(other, 0, 0), s.Account(me).Balance, s.Account(other).Balance); got != want {
			t.Errorf("N2: %s: %s, not %s", ask, got, want)
		}
	}
}

// N2: MaxAsks contracts may be under way, one within the other.
func TestAsks(t *testing.T) {
	const text = "contract c { open fn f(n: num) -> num { let ok: flag = false; let r: num = 0; if n == 0 { return 1000; } ask ok, r = self.f(n - 1) value 1 gas n * 200; return r + 1; } }"
	for n, want := range map[int]int{0: 1000, 3: 1003, 6: 1006, 7: 1007, 8: 8, 9: 8} {
		j := job(n)
		j.Gas = 5000
		if o, _ := called(t, begun(text), j); o.Kind != api.Done || o.Value != want {
			t.Errorf("N2: it asks itself %d times: %s, not %d", n, shown(o), want)
		}
	}
	// Those that are done with are under way no more; and each has its own functions under way.
	const many = "contract c { fn down(n: num) -> num { if n == 0 { return go(); } return down(n - 1); } fn go() -> num { let ok: flag = false; let r: num = 0; let sum: num = 0; while sum < 20 { ask ok, r = self.deep(27) value 0 gas 3000; need ok; sum = sum + r; } return sum; } " +
		"open fn deep(n: num) -> num { if n == 0 { return 2; } return deep(n - 1); } open fn f() -> num { return down(29); } }"
	j := job()
	j.Gas = api.MaxGas
	if o, _ := called(t, begun(many), j); o.Value != 20 {
		t.Errorf("N2: ten asks, from the 32nd function: %s", shown(o))
	}
}

// N2: notes: MaxNotes at most, those of who was asked among one's own.
func TestNotes(t *testing.T) {
	const text = "contract c { open fn f(a: num, k: num, b: num) -> num { let ok: flag = false; let r: num = 0; while a > 0 { note 500 + a; a = a - 1; } ask ok, r = who(549755813890).tell(k) value 0 gas 3000; need ok; while b > 0 { note 700 + b; b = b - 1; } return r; } }"
	for _, x := range []struct {
		a, k, b int
		done    bool
	}{{1, 2, 1, true}, {0, 64, 0, true}, {1, 63, 0, true}, {0, 63, 1, true}, {1, 64, 0, false}, {0, 64, 1, false}, {64, 0, 0, true}, {65, 0, 0, false}, {64, 1, 0, false}, {60, 2, 2, true}, {60, 2, 3, false}, {0, 65, 0, false}} {
		j := job(x.a, x.k, x.b)
		j.Gas = 10000
		o, _ := called(t, begun(text, asked), j)
		var want []string
		for i := range x.a {
			want = append(want, fmt.Sprint("note 1:", 500+x.a-i))
		}
		for i := range x.k {
			want = append(want, fmt.Sprint("note 2:", x.k-i))
		}
		for i := range x.b {
			want = append(want, fmt.Sprint("note 1:", 700+x.b-i))
		}
		if x.done != (o.Kind == api.Done) || x.done && !strings.HasSuffix(shown(o), " "+strings.Join(want, " ")) {
			t.Errorf("N2: notes: %v: %s", x, shown(o))
		}
	}
}

// N2: who is asked may ask back.
func TestAskingBack(t *testing.T) {
	const text = `contract c { slot n: num;
		open fn f(end: flag) -> num { let ok: flag = false; let r: num = 0; n = 5; ask ok, r = who(549755813890).back(end) value 0 gas 300; return n * 100 + r; }
		open fn again() -> num { n = n + 3; return n; } }`
	const back = `contract d { open fn back(end: flag) -> num { let ok: flag = false; let r: num = 0; ask ok, r = caller.again() value 0 gas 100; need ok and end; return r; } }`
	for end, want := range map[int]int{1: 808, 0: 500} {
		if o, _ := called(t, begun(text, back), job(end)); o.Kind != api.Done || o.Value != want {
			t.Errorf("N2: asking back, %d: %s, not %d", end, shown(o), want)
		}
	}
}

// P1: a contract that asks and asks ends, and soon: it is not read anew each time.
func TestManyAsks(t *testing.T) {
	const text = "contract c { open fn f() -> num { let ok: flag = false; let r: num = 0; while true { ask ok, r = who(549755813890).none() value 0 gas 0; } return 1; } }"
	s := state.New(begun(text, "contract c { }"+strings.Repeat(" ", 2000)))
	for range 20 {
		must(t, "P1", mean.Call(s, api.Job{From: giver, To: me, Text: "f", Gas: api.MaxGas}), "out used 65536")
	}
}

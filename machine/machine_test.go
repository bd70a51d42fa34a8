package machine_test

import (
	"fmt"
	"strings"
	"testing"

	"assize/api"
	"assize/machine"
	"assize/state"
	"assize/trie"
)

const adder = "contract c { slot n: num; open fn add(a: num) -> num { need a < 10; n = n + a; return n; } }"

func TestExample(t *testing.T) {
	for _, x := range []struct {
		arg, gas int
		want     string
	}{{4, 100, "done 4 used 23"}, {4, 23, "done 4 used 23"}, {4, 22, "out used 22"}, {4, 20, "out used 20"}, {10, 100, "failed used 4"}, {10, 4, "failed used 4"}, {10, 3, "out used 3"}, {9, 100, "done 9 used 23"}} {
		s := begun(adder)
		must(t, fmt.Sprint("M3, example 4 with ", x.arg, " and ", x.gas), calls(t, s, api.Job{From: giver, To: me, Text: "add", Args: []int{x.arg}, Gas: x.gas}), x.want)
	}
	s := begun(adder)
	for i := range 3 {
		must(t, "M4: what was kept is there", calls(t, s, api.Job{From: giver, To: me, Text: "add", Args: []int{5}, Gas: 99}), fmt.Sprint("done ", 5*(i+1), " used 23"))
	}
	if s.Word(me, 0, 0) != 15 {
		t.Errorf("M4: the slot has %d", s.Word(me, 0, 0))
	}
}

// jobs: jobs, each with whether it may be.
func jobs() map[string]struct {
	job api.Job
	may bool
} {
	all := map[string]struct {
		job api.Job
		may bool
	}{}
	add := func(why string, may bool, change func(*api.Job)) {
		j := job(1, 2)
		change(&j)
		all[why] = struct {
			job api.Job
			may bool
		}{j, may}
	}
	add("as it is", true, func(*api.Job) {})
	for n, may := range map[int]bool{-1 << 63: false, -1: false, 0: true, 1: true, api.MaxNumber: true, api.MaxNumber + 1: false, 1 << 62: false, 1<<63 - 1: false} {
		add(fmt.Sprint("From ", n), may, func(j *api.Job) { j.From = n })
		add(fmt.Sprint("To ", n), may, func(j *api.Job) { j.To = n })
		add(fmt.Sprint("Value ", n), may, func(j *api.Job) { j.Value = n })
		add(fmt.Sprint("Height ", n), may, func(j *api.Job) { j.Height = n })
		for i := range 8 {
			add(fmt.Sprint("the argument ", i, ": ", n), may, func(j *api.Job) { j.Args = make([]int, 8); j.Args[i] = n })
		}
	}
	for n, may := range map[int]bool{-1 << 63: false, -1: false, 0: true, 65535: true, 65536: true, 65537: false, api.MaxNumber: false, 1<<63 - 1: false} {
		add(fmt.Sprint("Gas ", n), may, func(j *api.Job) { j.Gas = n })
	}
	for n, may := range map[int]bool{0: true, 8: true, 9: false, 100: false} {
		add(fmt.Sprint(n, " arguments"), may, func(j *api.Job) { j.Args = make([]int, n) })
	}
	for _, s := range []string{"", "Not A Name", strings.Repeat("x", 5000)} {
		add("any text", true, func(j *api.Job) { j.Text = s })
	}
	return all
}

func TestMay(t *testing.T) {
	for why, x := range jobs() {
		if got := machine.May(x.job); got != x.may {
			t.Errorf("M1: %s: %v", why, got)
		}
	}
	if machine.May(api.Job{}) != true {
		t.Error("M1: all noughts")
	}
}

// M1: a job that may not be has failed, where another one would be done.
func TestJobsThatMayNotBe(t *testing.T) {
	for why, x := range jobs() {
		s := state.New(trie.New(8))
		s.SetAccount(giver, api.Account{Balance: 100})
		o := calls(t, s, x.job)
		if !x.may {
			must(t, "M1: "+why, o, "failed used 0")
			s = begun(adder)
			must(t, "M1: "+why, runs(t, s, api.Code{}, x.job), "failed used 0")
			continue
		}
		if o.Kind != api.Done && x.job.Value == 0 {
			t.Errorf("M2: %s: %s", why, shown(o))
		}
	}
	// The first piece takes what it is given: it is the job that is refused.
	c := one(8, 8, "Load 0, Back")
	must(t, "M1", runs(t, begun(), c, job(0, 0, 0, 0, 0, 0, 0, -1)), "failed used 0")
	must(t, "M1", runs(t, begun(), c, job(5, 0, 0, 0, 0, 0, 0, 1)), "done 5 used 2")
	j := job(0, 0, 0, 0, 0, 0, 0, 0)
	j.Gas = api.MaxGas + 1
	must(t, "M1", runs(t, begun(), c, j), "failed used 0")
	j.Gas = api.MaxGas
	must(t, "M1", runs(t, begun(), c, j), "done 0 used 2")
}

// balances: of the giver, the contract, nobody.
func balances(s *state.State) string {
	return fmt.Sprint(s.Account(giver).Balance, " ", s.Account(me).Balance, " ", s.Account(nobody).Balance)
}

// M2: the value, by itself and ahead of a contract.
func TestValue(t *testing.T) {
	const text = "contract c { open fn f() -> num { return balance(self) * 1000 + balance(caller); } open fn bad() -> num { need false; return 1; } open fn long() -> num { while true { } return 1; } }"
	for _, x := range []struct {
		why             string
		from, to, value int
		text, want      string
		left            string
	}{
		{"nothing", giver, nobody, 0, "", "done 0 used 0", "100 50 0"},
		{"some", giver, nobody, 30, "", "done 0 used 0", "70 50 30"},
		{"all", giver, nobody, 100, "", "done 0 used 0", "0 50 100"},
		{"too much", giver, nobody, 101, "", "failed used 0", "100 50 0"},
		{"from one who has none", nobody, giver, 1, "", "failed used 0", "100 50 0"},
		{"to oneself", giver, giver, 100, "", "done 0 used 0", "100 50 0"},
		{"to oneself too much", giver, giver, 101, "", "failed used 0", "100 50 0"},
		{"whatever the text is", giver, nobody, 1, "??", "done 0 used 0", "99 50 1"},
		{"to a contract", giver, me, 30, "f", "done 80070 used 14", "70 80 0"},
		{"nothing to a contract", giver, me, 0, "f", "done 50100 used 14", "100 50 0"},
		{"too much to a contract", giver, me, 101, "f", "failed used 0", "100 50 0"},
		{"to a contract that fails", giver, me, 30, "bad", "failed used 2", "100 50 0"},
		{"to a contract that is out", giver, me, 30, "long", "out used 1000", "100 50 0"},
		{"to a contract without that function", giver, me, 30, "none", "failed used 0", "100 50 0"},
		{"a contract to itself", me, me, 50, "f", "done 50050 used 14", "100 50 0"},
	} {
		s := begun(text)
		must(t, "M2: "+x.why, calls(t, s, api.Job{From: x.from, To: x.to, Value: x.value, Text: x.text, Gas: 1000}), x.want)
		if got := balances(s); got != x.left {
			t.Errorf("M2: %s: %s, not %s", x.why, got, x.left)
		}
	}
	// What has been put there can be no more than a number.
	for value, want := range map[int]string{5: "done 0 used 0", 6: "failed used 0"} {
		s := begun()
		s.SetAccount(nobody, api.Account{Balance: api.MaxNumber - 5})
		must(t, "M2: a full account", calls(t, s, api.Job{From: giver, To: nobody, Value: value}), want)
	}
}

// long: a right contract whose text has so many bytes.
func long(n int) string {
	s := "contract c { open fn f() -> num { return 1; } }"
	return s + strings.Repeat(" ", n-len(s))
}

func TestTexts(t *testing.T) {
	lets := ""
	for i := range 33 {
		lets += fmt.Sprint("let v", i, ": num = 1; ")
	}
	for text, want := range map[string]string{
		"contract c { open fn f() -> num { return 1; } }": "done 1 used 2",
		long(2048): "done 1 used 2",
		long(2049): "failed used 0",
		long(4096): "failed used 0",
		"contract c { open fn f() -> num { return 1; } } x": "failed used 0",
		"contract c { open fn f() -> num { return 1; }":     "failed used 0",
		"contract c { open fn f() -> num { return 1 } }":    "failed used 0",
		"?": "failed used 0",
		" ": "failed used 0",
		"contract c { open fn f() -> num { return 1; } fn g() -> num { return true; } }":               "failed used 0",
		"contract c { open fn f() -> num { return 1; } fn g() -> num { } }":                            "failed used 0",
		"contract c { open fn f() -> num { return 1; } slot f: num; }":                                 "failed used 0",
		"contract c { open fn f() -> num { return 1; } fn g() -> num { " + lets + "return 1; } }":      "failed used 0",
		"contract c { open fn f() -> num { return 1; } fn g() -> num { " + lets[17:] + "return 1; } }": "done 1 used 2",
		"contract c { }": "failed used 0",
	} {
		must(t, "M2: "+text, calls(t, begun(text), job()), want)
	}
}

func TestFirstPiece(t *testing.T) {
	const text = "contract c { fn shut() -> num { return 1; } open fn f(a: num) -> num { return a; } open fn g(a: num, b: num) -> num { return b; } open fn z() -> num { return shut(); } }"
	for _, x := range []struct {
		name string
		args []int
		want string
	}{
		{"f", []int{4}, "done 4 used 2"}, {"f", nil, "failed used 0"}, {"f", []int{4, 5}, "failed used 0"}, {"g", []int{4, 5}, "done 5 used 2"}, {"g", []int{4}, "failed used 0"},
		{"shut", nil, "failed used 0"}, {"z", nil, "done 1 used 5"}, {"", nil, "failed used 0"}, {"c", nil, "failed used 0"}, {"F", []int{4}, "failed used 0"}, {"f ", []int{4}, "failed used 0"}, {"g", []int{1, 2, 3, 4, 5, 6, 7, 8}, "failed used 0"},
	} {
		must(t, fmt.Sprint("M2: ", x.name, x.args), calls(t, begun(text), api.Job{From: giver, To: me, Text: x.name, Args: x.args, Gas: 10}), x.want)
	}
	// Of several that could be meant it is the first; those that are not open, or take another number, are passed by.
	piece := func(name string, open bool, params, answer int) api.Piece {
		return api.Piece{Name: name, Open: open, Params: params, Locals: params, Body: instrs(fmt.Sprint("Push ", answer, ", Back"))}
	}
	c := api.Code{Pieces: []api.Piece{piece("f", false, 1, 10), piece("f", true, 2, 11), piece("g", true, 1, 12), piece("f", true, 1, 13), piece("f", true, 1, 14), piece("f", true, 0, 15), piece("", true, 0, 16)}}
	for _, x := range []struct {
		name string
		args []int
		want string
	}{{"f", []int{1}, "done 13 used 2"}, {"f", []int{1, 2}, "done 11 used 2"}, {"f", nil, "done 15 used 2"}, {"g", []int{1}, "done 12 used 2"}, {"", nil, "done 16 used 2"}, {"g", nil, "failed used 0"}, {"f", []int{1, 2, 3}, "failed used 0"}} {
		j := job(x.args...)
		j.Text = x.name
		must(t, fmt.Sprint("M2: ", x.name, x.args), runs(t, begun(), c, j), x.want)
	}
}

// M2: what a call does lies behind the marks that were there: they can still be gone back to.
func TestMarks(t *testing.T) {
	for _, arg := range []int{4, 10} {
		s := begun(adder)
		s.SetWord(me, 0, 0, 7)
		before := root(s)
		first, second := s.Mark(), s.Mark()
		s.SetWord(me, 0, 0, 8)
		machine.Call(s, api.Job{From: giver, To: me, Text: "add", Args: []int{arg}, Gas: 100, Value: 3})
		if s.Mark() != 2 {
			t.Error("M2: marks are left, or gone")
		}
		want := 8
		if arg < 10 {
			want += arg
		}
		if got := s.Word(me, 0, 0); got != want {
			t.Errorf("M2: the slot has %d, not %d", got, want)
		}
		if s.Keep(second) != api.OK || s.Undo(first) != api.OK || root(s) != before {
			t.Error("M2: the state can't be gone back with")
		}
	}
}

func TestRun(t *testing.T) {
	c := one(1, 1, "Load 0, Push 3, Minus, Back")
	// Be there a text or not, be it right or not.
	for _, text := range []string{"", "contract c { open fn f(a: num) -> num { return 77; } }", "?", long(3000)} {
		must(t, "M7", runs(t, begun(text), c, job(5)), "done 2 used 4")
		must(t, "M7", runs(t, begun(text), c, job(2)), "failed used 3")
		j := job(5)
		j.Value = 20
		s := begun(text)
		must(t, "M7", runs(t, s, c, j), "done 2 used 4")
		if balances(s) != "80 70 0" {
			t.Errorf("M7: the value: %s", balances(s))
		}
		j.Value = 101
		must(t, "M7", runs(t, begun(text), c, j), "failed used 0")
	}
	must(t, "M7: no pieces", runs(t, begun(adder), api.Code{}, job(5)), "failed used 0")
	for _, x := range []struct {
		why  string
		code api.Code
		want api.Errno
	}{
		{"no instruction", api.Code{Pieces: []api.Piece{{Name: "f", Open: true}}}, api.ErrCode},
		{"no end", one(0, 0, "Push 1, Pop"), api.ErrCode},
		{"no such local", one(0, 0, "Load 0, Back"), api.ErrCode},
		{"a stack that is empty", one(0, 0, "Plus, Back"), api.ErrCode},
		{"pieces", api.Code{Pieces: make([]api.Piece, 33)}, api.ErrLimit},
		{"locals", one(0, 33, "Push 1, Back"), api.ErrLimit},
		{"what is not entered", api.Code{Pieces: append(one(0, 0, "Push 1, Back").Pieces, api.Piece{Name: "g", Body: instrs("Push 1")})}, api.ErrCode},
	} {
		// Also where the job may not be: the code is looked at first.
		for _, j := range []api.Job{job(), {Gas: -1}} {
			j.Value = 9
			s := begun(adder)
			before := root(s)
			o, e := machine.Run(s, x.code, j)
			if e != x.want || o.Kind != 0 || o.Value != 0 || o.Used != 0 || len(o.Notes) > 0 || root(s) != before {
				t.Errorf("M7: %s: %v and %d", x.why, o, e)
			}
		}
	}
}

// P2: what comes out is the caller's, and what was handed in is not kept.
func TestFresh(t *testing.T) {
	s := begun("contract c { slot n: num; open fn f(a: num, b: num) -> num { note a; note b; a = 9; n = n + 1; return n; } }")
	args := []int{4, 5}
	j := job(args...)
	j.Args = args
	first := machine.Call(s, j)
	if fmt.Sprint(args) != "[4 5]" {
		t.Errorf("P2: the arguments are %v", args)
	}
	second := machine.Call(s, j)
	first.Notes[0].N = 99
	_ = append(first.Notes[:1], api.Note{N: 98})
	must(t, "P2", second, "done 2 used 31 note 1:4 note 1:5")
	must(t, "P2", machine.Call(s, j), "done 3 used 31 note 1:4 note 1:5")
	c := one(1, 1, "Push 7, Store 0, Load 0, Back")
	args = []int{1, 2}[:1]
	j.Args = args
	if o, e := machine.Run(s, c, j); e != api.OK || o.Value != 7 || args[0] != 1 || args[:2][1] != 2 {
		t.Errorf("P2: Run: %v %d, and the arguments are %v", o, e, args[:2])
	}
}

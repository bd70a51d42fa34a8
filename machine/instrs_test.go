package machine_test

import (
	"fmt"
	"strings"
	"testing"

	"assize/api"
)

// allGas: what is done, or fails, with some gas: with less it is out, with more the same.
func allGas(t *testing.T, why string, c api.Code, j api.Job, want string) {
	t.Helper()
	o := runs(t, begun("", "", ""), c, j)
	must(t, why, o, want)
	if o.Kind == api.Out {
		return
	}
	for _, gas := range []int{0, 1, o.Used / 2, o.Used - 1, o.Used, o.Used + 1, api.MaxGas} {
		j.Gas = max(gas, 0)
		if gas < o.Used {
			must(t, fmt.Sprint(why, ", with gas ", j.Gas), runs(t, begun("", "", ""), c, j), fmt.Sprint("out used ", j.Gas))
		} else {
			must(t, fmt.Sprint(why, ", with gas ", j.Gas), runs(t, begun("", "", ""), c, j), want)
		}
	}
}

// M3: each instruction that deals with a piece alone; the gas is C1's.
func TestInstructions(t *testing.T) {
	for body, want := range map[string]string{
		"Push 7, Back":              "done 7 used 2",
		"Push 1099511627775, Back":  "done 1099511627775 used 2",
		"Push 7, Push 8, Pop, Back": "done 7 used 4",
		"Load 0, Back":              "done 20 used 2",
		"Load 1, Back":              "done 6 used 2",
		"Load 2, Back":              "done 0 used 2",
		"Load 3, Back":              "done 0 used 2",
		"Push 5, Store 2, Push 4, Load 2, Pop, Pop, Load 2, Back":              "done 5 used 8",
		"Push 5, Store 0, Load 0, Back":                                        "done 5 used 4",
		"Load 0, Load 1, Plus, Back":                                           "done 26 used 4",
		"Load 0, Load 1, Minus, Back":                                          "done 14 used 4",
		"Load 0, Load 1, Times, Back":                                          "done 120 used 4",
		"Load 0, Load 1, Over, Back":                                           "done 3 used 4",
		"Load 0, Load 1, Rest, Back":                                           "done 2 used 4",
		"Load 0, Load 1, Same, Back":                                           "done 0 used 4",
		"Load 0, Load 0, Same, Back":                                           "done 1 used 4",
		"Load 0, Load 1, Under, Back":                                          "done 0 used 4",
		"Load 1, Load 0, Under, Back":                                          "done 1 used 4",
		"Load 1, Load 1, Under, Back":                                          "done 0 used 4",
		"Load 0, Load 1, Above, Back":                                          "done 1 used 4",
		"Load 1, Load 0, Above, Back":                                          "done 0 used 4",
		"Load 1, Load 1, Above, Back":                                          "done 0 used 4",
		"Push 0, Flip, Back":                                                   "done 1 used 3",
		"Push 1, Flip, Back":                                                   "done 0 used 3",
		"Push 2, Flip, Back":                                                   "done 0 used 3",
		"Push 1099511627775, Flip, Back":                                       "done 0 used 3",
		"Jump 3, Push 1, Back, Push 2, Back":                                   "done 2 used 3",
		"Jump 1, Push 1, Back":                                                 "done 1 used 3",
		"Push 0, Zero 4, Push 1, Back, Push 2, Back":                           "done 2 used 4",
		"Push 1, Zero 4, Push 1, Back, Push 2, Back":                           "done 1 used 4",
		"Push 9, Zero 4, Push 1, Back, Push 2, Back":                           "done 1 used 4",
		"Push 0, Must, Push 1, Back":                                           "failed used 2",
		"Push 1, Must, Push 1, Back":                                           "done 1 used 4",
		"Push 2, Must, Push 1, Back":                                           "done 1 used 4",
		"Load 1, Zero 7, Load 1, Push 1, Minus, Store 1, Jump 0, Load 0, Back": "done 20 used 46",
		// The stack is the piece's own: below what is taken nothing is lost.
		"Push 1, Push 20, Push 30, Push 4, Minus, Plus, Plus, Back": "done 47 used 8",
		"Jump 0":              "out used 1000",
		"Push 1, Pop, Jump 0": "out used 1000",
	} {
		allGas(t, "M3: "+body, one(2, 4, body), job(20, 6), want)
	}
}

// M3: sums at their edges.
func TestSums(t *testing.T) {
	const most = api.MaxNumber
	for _, x := range []struct {
		op   string
		a, b int
		want string
	}{
		{"Plus", 0, 0, "0"}, {"Plus", most, 0, "1099511627775"}, {"Plus", 0, most, "1099511627775"}, {"Plus", most - 1, 1, "1099511627775"}, {"Plus", most, 1, ""}, {"Plus", 1, most, ""}, {"Plus", most, most, ""},
		{"Minus", 0, 0, "0"}, {"Minus", 5, 5, "0"}, {"Minus", 5, 6, ""}, {"Minus", 0, 1, ""}, {"Minus", 0, most, ""}, {"Minus", most, most, "0"}, {"Minus", most, 0, "1099511627775"}, {"Minus", 6, 5, "1"},
		{"Times", 0, 0, "0"}, {"Times", 0, most, "0"}, {"Times", most, 0, "0"}, {"Times", 1, most, "1099511627775"}, {"Times", most, 1, "1099511627775"}, {"Times", most, most, ""}, {"Times", most, 2, ""}, {"Times", 2, most, ""},
		{"Times", 1 << 20, 1 << 20, ""}, {"Times", 1<<20 - 1, 1<<20 + 1, "1099511627775"}, {"Times", 1 << 20, 1<<20 - 1, "1099510579200"}, {"Times", 1<<20 + 1, 1 << 20, ""},
		// Products that an int of 64 bits would show as small numbers again.
		{"Times", 1 << 32, 1 << 32, ""}, {"Times", 1 << 39, 1 << 25, ""}, {"Times", 1<<32 + 1, 1 << 32, ""}, {"Times", 1 << 38, 1<<26 + 1, ""}, {"Times", 3, most / 3, "1099511627775"}, {"Times", 3, most/3 + 1, ""}, {"Times", most / 3, 3, "1099511627775"}, {"Times", most/3 + 1, 3, ""},
		{"Over", 0, 0, ""}, {"Over", 5, 0, ""}, {"Over", most, 0, ""}, {"Over", 0, 5, "0"}, {"Over", 4, 5, "0"}, {"Over", 5, 5, "1"}, {"Over", 9, 5, "1"}, {"Over", 10, 5, "2"}, {"Over", most, 1, "1099511627775"}, {"Over", most, most, "1"},
		{"Rest", 0, 0, ""}, {"Rest", 5, 0, ""}, {"Rest", most, 0, ""}, {"Rest", 0, 5, "0"}, {"Rest", 4, 5, "4"}, {"Rest", 5, 5, "0"}, {"Rest", 9, 5, "4"}, {"Rest", most, 1, "0"}, {"Rest", most, 1 << 20, "1048575"}, {"Rest", 7, most, "7"},
		{"Same", most, most, "1"}, {"Same", most, most - 1, "0"}, {"Same", 0, 0, "1"}, {"Under", 0, most, "1"}, {"Under", most, 0, "0"}, {"Above", most, 0, "1"}, {"Above", 0, most, "0"},
	} {
		want := "done " + x.want + " used 4"
		if x.want == "" {
			want = "failed used 3"
		}
		allGas(t, fmt.Sprint("M3: ", x.a, " ", x.op, " ", x.b), one(2, 2, "Load 0, Load 1, "+x.op+", Back"), job(x.a, x.b), want)
	}
}

// pieces: code of several pieces; the first is f, and open.
func pieces(bodies ...string) api.Code {
	c := api.Code{Names: []string{"g", "f", "no"}}
	for i, body := range bodies {
		params := strings.Count(body, "P ")
		p := api.Piece{Name: fmt.Sprint("p", i), Params: params, Locals: params + 1, Body: instrs(strings.ReplaceAll(body, "P ", ""))}
		if i == 0 {
			p.Name, p.Open = "f", true
		}
		c.Pieces = append(c.Pieces, p)
	}
	return c
}

// M3: pieces that enter others. (P: a parameter more.)
func TestEnter(t *testing.T) {
	for _, x := range []struct {
		why  string
		code api.Code
		want string
	}{
		{"without arguments", pieces("Enter 1, Back", "Push 5, Back"), "done 5 used 5"},
		{"with arguments, the lowest first", pieces("Push 1, Push 20, Push 3, Enter 1, Plus, Back", "P P Load 0, Load 1, Minus, Back"), "done 18 used 11"},
		{"locals that are noughts", pieces("Push 1, Store 0, Push 7, Enter 1, Load 0, Plus, Back", "P Load 1, Push 9, Store 1, Back"), "done 1 used 12"},
		{"locals that are noughts again", pieces("Push 7, Enter 1, Pop, Push 7, Enter 1, Back", "P Load 1, Push 9, Store 1, Back"), "done 0 used 16"},
		{"locals of its own", pieces("Push 1, Store 0, Push 7, Enter 1, Load 0, Plus, Back", "P Push 8, Store 0, Load 0, Back"), "done 9 used 12"},
		{"a stack of its own", pieces("Push 30, Push 7, Enter 1, Minus, Back", "P Load 0, Push 2, Times, Back"), "done 16 used 10"},
		{"that fails", pieces("Push 30, Push 7, Enter 1, Minus, Back", "P Push 0, Must, Load 0, Back"), "failed used 6"},
		{"one behind another", pieces("Enter 1, Enter 2, Plus, Back", "Enter 2, Push 10, Times, Back", "Push 5, Back"), "done 55 used 15"},
		{"without end", pieces("Enter 0, Back"), "failed used 64"},
		{"to and fro without end", pieces("Enter 1, Back", "Push 1, Enter 2, Back", "P Enter 0, Back"), "failed used 75"},
	} {
		allGas(t, "M3: "+x.why, x.code, job(), x.want)
	}
}

// M3: MaxFrames pieces may be under way, the first one too; those that are done with count no more.
func TestFrames(t *testing.T) {
	// f(n): if n is 0, 0; else f(n - 1) + 1
	c := one(1, 1, "Load 0, Zero 9, Load 0, Push 1, Minus, Enter 0, Push 1, Plus, Back, Push 0, Back")
	for n, want := range map[int]string{0: "done 0 used 4", 1: "done 1 used 14", 30: "done 30 used 304", 31: "done 31 used 314", 32: "failed used 224", 33: "failed used 224", 1000: "failed used 224"} {
		allGas(t, fmt.Sprint("M3: frames ", n), c, job(n), want)
	}
	// Forty, one behind the other, and then 31 within.
	c.Pieces = append(c.Pieces, api.Piece{Name: "g", Open: true, Params: 1, Locals: 2, Body: instrs("Load 1, Push 40, Under, Zero 12, Push 3, Enter 0, Pop, Load 1, Push 1, Plus, Store 1, Jump 0, Load 0, Enter 0, Back")})
	for n, want := range map[int]string{30: "done 30", 31: "failed"} {
		j := job(n)
		j.Text, j.Gas = "g", api.MaxGas
		if o := runs(t, begun(), c, j); !strings.HasPrefix(shown(o), want+" ") {
			t.Errorf("M3: 41 and %d: %s", n, shown(o))
		}
	}
}

// M4: what deals with the job and with the state.
func TestState(t *testing.T) {
	for body, want := range map[string]string{
		"Me, Back":                                     "done 549755813889 used 2",
		"From, Back":                                   "done 3 used 2",
		"Paid, Back":                                   "done 40 used 2",
		"High, Back":                                   "done 9 used 2",
		"Read 0, Back":                                 "done 0 used 5",
		"Read 31, Back":                                "done 31 used 5",
		"Push 8, Write 2, Read 2, Back":                "done 8 used 14",
		"Push 8, Write 2, Push 0, Seek 2, Back":        "done 8 used 15",
		"Push 0, Push 6, Stow 4, Read 4, Back":         "done 6 used 15",
		"Push 9, Push 6, Stow 4, Read 4, Back":         "done 0 used 15",
		"Push 9, Push 6, Stow 4, Push 9, Seek 4, Back": "done 6 used 16",
		"Push 9, Push 6, Stow 4, Push 6, Seek 4, Back": "done 0 used 16",
		"Push 9, Push 6, Stow 4, Push 9, Seek 5, Back": "done 0 used 16",
		"Push 1099511627775, Push 1099511627775, Stow 31, Push 1099511627775, Seek 31, Back": "done 1099511627775 used 16",
		"Push 0, Write 31, Read 31, Back": "done 0 used 14",
		"Push 3, Purse, Back":             "done 60 used 6",
		"Me, Purse, Back":                 "done 90 used 6",
		"Push 77, Purse, Back":            "done 0 used 6",
		"Push 1099511627775, Purse, Back": "done 0 used 6",
		"Push 77, Push 90, Hand, Push 77, Purse, Me, Purse, Minus, Back": "done 90 used 30",
		"Push 77, Push 91, Hand, Push 1, Back":                           "failed used 18",
		"Push 77, Push 1099511627775, Hand, Push 1, Back":                "failed used 18",
		"Push 3, Push 1, Hand, Push 3, Purse, Back":                      "done 61 used 24",
		"Push 77, Push 0, Hand, Push 77, Purse, Back":                    "done 0 used 24",
		"Me, Push 90, Hand, Me, Purse, Back":                             "done 90 used 24",
		"Me, Push 91, Hand, Push 1, Back":                                "failed used 18",
		"Push 5, Push 6, Hand, Push 1, Back":                             "failed used 18",
		"Push 5, Push 5, Hand, Push 5, Purse, Back":                      "done 1099511627775 used 24",
		"Push 4, Say, Push 5, Say, Push 0, Say, Push 1, Back":            "done 1 used 17 note 1:4 note 1:5 note 1:0",
		"Push 4, Say, Push 0, Must, Push 1, Back":                        "failed used 7",
	} {
		j := job()
		j.Value = 40
		s := begun("")
		s.SetWord(me, 31, 0, 31)
		s.SetWord(other, 4, 0, 44)
		s.SetAccount(5, api.Account{Balance: api.MaxNumber - 5})
		must(t, "M4: "+body, runs(t, s, one(0, 0, body), j), want)
		if s.Word(other, 4, 0) != 44 {
			t.Errorf("M4: %s: another's word is %d", body, s.Word(other, 4, 0))
		}
	}
}

// M4: what is put stands where chapter 4 has it.
func TestWhere(t *testing.T) {
	s := begun("")
	must(t, "M4", runs(t, s, one(0, 0, "Push 8, Write 2, Push 5, Push 6, Stow 3, Push 7, Push 0, Stow 3, Push 1, Back"), job()), "done 1 used 31")
	want := begun("")
	want.SetWord(me, 2, 0, 8)
	want.SetWord(me, 3, 5, 6)
	if root(s) != root(want) {
		t.Error("M4: the state is another")
	}
	must(t, "M4", runs(t, s, one(0, 0, "Push 0, Write 2, Push 5, Push 0, Stow 3, Push 1, Back"), job()), "done 1 used 21")
	if root(s) != root(begun("")) {
		t.Error("M4: what is 0 is still there")
	}
}

// M4: at most MaxNotes.
func TestNotes(t *testing.T) {
	// f(n): n notes, from 0 on
	c := one(1, 2, "Load 1, Load 0, Under, Zero 11, Load 1, Say, Load 1, Push 1, Plus, Store 1, Jump 0, Load 1, Back")
	for _, n := range []int{0, 1, 63, 64, 65, 70} {
		j := job(n)
		j.Gas = 10000
		want := fmt.Sprint("done ", n, " used ", 6+14*n)
		for i := range n {
			want += fmt.Sprint(" note 1:", i)
		}
		if n > 64 {
			want = fmt.Sprint("failed used ", 14*64+9)
		}
		must(t, fmt.Sprint("M4: notes ", n), runs(t, begun(), c, j), want)
	}
}

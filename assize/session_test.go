package assize_test

import (
	"strings"
	"testing"

	"assize/assize"
)

func TestTheDocumentsSessions(t *testing.T) {
	for what, x := range map[string][2][]string{
		"7": {
			{"way", "look 1"},
			{"way 3", "node 1 height 0 round 0 step 1 waiting 0 guilts 0"},
		},
		"8": {
			{"pay 50 0 3 16 60 25 at 2", "calm 3", "look 1", "account 3 50"},
			{"ok", "ok", "node 1 height 3 round -1 step 0 waiting 0 guilts 0",
				"1 aeefb404b013c5f1 0", "2 f952e1ee8fcd6a09 1", "3 fade83d694af1ada 0",
				"account 50 balance 8927 foreign 0 nonce 1 bond 0 leaving 0 jailed 0"},
		},
		"9": {
			{"liar 4", "twice 4 0 1 0 1", "calm 6", "account 1 4", "account 1 0"},
			{"ok", "ok", "ok", "account 4 balance 500 foreign 0 nonce 0 bond 0 leaving 0 jailed 1",
				"account 0 balance 1 foreign 0 nonce 0 bond 0 leaving 0 jailed 0"},
		},
		"10": {
			{"stop 2 0 0", "look 2", "calm 2", "begin 2", "look 2", "calm 1", "look 2"},
			{"ok", "error 27", "ok", "ok", "node 2 height 0 round 0 step 0 waiting 0 guilts 0", "ok",
				"node 2 height 1 round -1 step 0 waiting 0 guilts 0", "1 aeefb404b013c5f1 0"},
		},
		"10, another":    {{"calm 3", "show 1 1 2 3 4"}, {"ok", "believes 3", "ok", "ok", "ok"}},
		"10, once more":  {{"calm 3", "show 1 1 4"}, {"ok", "believes 1", "ok"}},
		"10, both shown": {{"calm 3", "show 1 1 2 3 4", "show 1 1 4"}, {"ok", "believes 3", "ok", "ok", "ok", "believes 1", "ok"}},
	} {
		behind(t, "the document's session "+what, strings.Join(x[0], "\n"), strings.Join(x[1], "\n")+"\n")
		behind(t, "the document's session "+what, strings.Join(x[0], "\n")+"\n", strings.Join(x[1], "\n")+"\n")
	}
}

func TestTextsAndLines(t *testing.T) {
	for text, want := range map[string]string{
		"":                   "",
		"\n":                 "bad\n",
		"\n\n":               "bad\nbad\n",
		"x":                  "bad\n",
		"x\n":                "bad\n",
		"x\n\n":              "bad\nbad\n",
		"liar 1":             "ok\n",
		"liar 1\n":           "ok\n",
		"liar 1\r\n":         "bad\n",
		"liar 1\rliar 1":     "bad\n",
		"\nliar 1":           "bad\nok\n",
		"liar 1\n\nliar 2\n": "ok\nbad\nok\n",
		" \n":                "bad\n",
		"liar 1\x00":         "bad\n",
		"\xff\xfe\nliar 1":   "bad\nok\n",
	} {
		answers(t, "Z1", text, want)
	}
}

func TestTooLong(t *testing.T) {
	short := strings.Repeat("x", 99) + "\n" // of 100 bytes
	for what, x := range map[string][2]string{
		"20,000 bytes":                          {strings.Repeat(short, 200), strings.Repeat("bad\n", 200)},
		"20,001 bytes":                          {strings.Repeat(short, 200) + "x", "too long\n"},
		"20,001 bytes, the last one a newline":  {strings.Repeat(short, 200) + "\n", "too long\n"},
		"20,000 bytes of one line":              {strings.Repeat("x", 20000), "bad\n"},
		"20,001 bytes of one line":              {strings.Repeat("x", 20001), "too long\n"},
		"many bytes":                            {strings.Repeat("x", 1<<20), "too long\n"},
		"1,000 lines":                           {strings.Repeat("liar 1\n", 1000), ok(1000)},
		"1,000 lines, without the last newline": {strings.Repeat("liar 1\n", 999) + "liar 1", ok(1000)},
		"1,001 lines":                           {strings.Repeat("liar 1\n", 1001), "too long\n"},
		"1,001 lines, the last one short":       {strings.Repeat("liar 1\n", 1000) + "x", "too long\n"},
		"1,000 empty lines":                     {strings.Repeat("\n", 1000), strings.Repeat("bad\n", 1000)},
		"1,001 empty lines":                     {strings.Repeat("\n", 1001), "too long\n"},
		"many lines":                            {strings.Repeat("\n", 20000), "too long\n"},
		"20,000 bytes, two of each character":   {strings.Repeat("é", 10000), "bad\n"},
		"20,002 bytes, two of each character":   {strings.Repeat("é", 10001), "too long\n"},
	} {
		answers(t, "Z1: "+what, x[0], x[1])
	}
}

// lines are the lines that there are, with numbers that may be.
func lines() []string {
	return []string{
		"ledger 1 8 2 900", "start 5 500 2", "liar 4",
		"pay 50 0 3 16 60 25 at 2", "bond 1 0 1 16 1 at 1", "leave 1 0 1 16 1 at 1", "free 1 0 1 16 at 1",
		"deliver 0", "drop 0", "double 0", "tick 1", "begin 1", "stop 1 0 0", "calm 1",
		"vote 4 0 1 0 1 7", "vote 4 0 1 0 1 none", "twice 4 0 1 0 1",
		"look 1", "account 1 50", "way", "show 1", "show 1 1", "show 1 1 2 3",
	}
}

func isBad(t *testing.T, line string) {
	t.Helper()
	answers(t, "Z1: it is none of the lines", line, "bad\n")
	behind(t, "Z1: it is none of the lines", line+"\nway\n", "bad\nway 3\n")
}

func TestWhatIsALine(t *testing.T) {
	for _, line := range lines() {
		if got := assize.Session(line); strings.HasPrefix(got, "bad") {
			t.Errorf("Z1: %q is bad", line)
		}
	}
}

func TestWhatIsNoLine(t *testing.T) {
	for _, line := range []string{
		"x", "Way", "WAY", "way 1", "way ", "way\t", "ways", "wa", "look", "look x", "look 1 2", "Look 1", "account 1", "account 1 2 3",
		"show", "show x", "show 1 x", "show 1 2 x", "show 1 -2", "show -1", "show 1 none", "show none",
		"ledger", "ledger 1 8 2", "ledger 1 8 2 900 1", "ledger -1 8 2 900", "start 1 500", "start 1 500 2 3", "start 1 -500 2", "liar", "liar 1 2", "liar -1", "liar none",
		"pay 50 0 3 16 60 25 2", "pay 50 0 3 16 60 25 at", "pay 50 0 3 16 60 at 2", "pay 50 0 3 16 60 25 2 at", "pay 50 0 3 16 60 25 At 2", "pay 50 0 3 16 60 25 at at 2",
		"pay 50 0 3 16 60 25 at 2 at 3", "pay 50 0 3 16 60 25 7 2", "pay 50 0 3 16 60 25 at -2", "pay 50 -0 3 16 60 25 at 2", "pay 50 0 3 16 60 none at 2",
		"bond 1 0 1 16 at 1", "bond 1 0 1 16 1 1 at 1", "leave 1 0 1 16 at 1", "leave 1 0 1 16 1 1 at 1", "leave ..", "free 1 0 1 16 1 at 1", "free 1 0 1 at 1",
		"deliver", "deliver 1 2", "deliver x", "deliver none", "drop", "double", "double --1", "drop - 1", "drop -", "drop +1",
		"tick", "tick -1", "tick 1 2", "begin", "begin -1", "stop 1 0", "stop 1 -1 0", "stop 1 0 -1", "stop 1 0 0 0", "calm", "calm -1", "calm 1 1", "calm none",
		"vote 4 0 1 0 1", "vote 4 0 1 0 1 None", "vote 4 0 1 0 1 -1", "vote 4 0 1 0 1 7 8", "vote 4 0 1 0 none 7", "vote 4 0 1 0 1 none 1", "vote 4 0 1 -1 1 7", "vote 4 0 1 0 1 0x7", "vote 4 0 1 0 1 a",
		"twice 4 0 1 0", "twice 4 0 1 0 1 1", "twice 4 0 1 0 1 none",
		"N", "deliver Z", "look N", "show N ..", "show 1 ..", "vote 4 0 1 0 1 D", "ok", "bad", "error 1", "none", "at",
	} {
		isBad(t, line)
	}
	// Words have one blank between, none ahead, none behind.
	for _, line := range lines() {
		isBad(t, " "+line)
		isBad(t, line+" ")
		isBad(t, "\t"+line)
		isBad(t, strings.ToUpper(line))
		isBad(t, line+" x")
		for i := range len(line) {
			if line[i] == ' ' {
				isBad(t, line[:i]+" "+line[i:])
				isBad(t, line[:i]+"\t"+line[i+1:])
				isBad(t, line[:i]+"\u00a0"+line[i+1:])
				if !strings.HasPrefix(line, "show 1 ") { // which may have fewer numbers
					isBad(t, line[:i]+line[i+1:])
				}
			}
		}
	}
}

func TestNumbers(t *testing.T) {
	wrong := []string{
		"", "00", "01", "007", "+1", "+0", "-0", "-00", "-01", "1.", "1.0", "1e3", "0x1", "1_000", "1,000", "a", "1a", "a1", " ", "1 ", "-", "--1", "1-", "١", "１",
		"1099511627776", "9999999999999", "9223372036854775807", "9223372036854775808", "18446744073709551616", "18446744073709551617", strings.Repeat("9", 1000), "-1099511627776", "-9223372036854775808", "-" + strings.Repeat("9", 1000),
	}
	for _, line := range lines() {
		words := strings.Split(line, " ")
		for i, word := range words {
			if word[0] < '0' || word[0] > '9' {
				continue
			}
			with := func(number string) string {
				l := strings.Split(line, " ")
				l[i] = number
				return strings.Join(l, " ")
			}
			for _, number := range wrong {
				isBad(t, with(number))
			}
			for _, number := range []string{"0", "1", "9", "10", "1099511627775"} {
				if got := assize.Session(with(number)); strings.HasPrefix(got, "bad") {
					t.Errorf("Z1: %q is bad", with(number))
				}
			}
			signed := words[0] == "deliver" || words[0] == "drop" || words[0] == "double"
			for _, number := range []string{"-1", "-10", "-1099511627775"} {
				if got := assize.Session(with(number)); strings.HasPrefix(got, "bad") == signed {
					t.Errorf("Z1: %q is answered %q", with(number), got)
				}
			}
		}
	}
}

func TestTheBeginning(t *testing.T) {
	// Without a ledger, and without one that can begin, there is no world.
	for _, line := range lines()[3:] {
		answers(t, "Z1: nothing", line, "error 29\n")
		answers(t, "Z1: no ledger", "start 1 500 2\n"+line, "ok\nerror 29\n")
		answers(t, "Z1: no starts", "ledger 1 8 2 900\n"+line, "ok\nerror 29\n")
		answers(t, "Z1: nobody has a bond", "ledger 1 8 2 900\nstart 1 500 0\n"+line, "ok\nok\nerror 29\n")
		answers(t, "Z1: starts that fall", "ledger 1 8 2 900\nstart 2 500 1\nstart 1 500 1\n"+line, "ok\nok\nok\nerror 29\n")
		answers(t, "Z1: a liar who keeps no node", six+"liar 50\n"+line, ok(7)+"error 17\n")
		answers(t, "Z1: a liar who is not there", six+"liar 4\nliar 9\n"+line+"\n"+line, ok(8)+"error 17\nerror 17\n")
	}
	for line, width := range map[string]string{"ledger 1 0 2 900": "0", "ledger 1 9 2 900": "9", "ledger 1 8 0 900": "8", "ledger 1 8 1001 900": "8"} {
		answers(t, "Z1: width "+width, line+"\nstart 1 500 2\nway", "ok\nok\nerror 29\n")
	}
	// More can be told when it could not begin, and then it can.
	answers(t, "Z1: a start comes later", "way\nledger 1 8 2 900\nway\nstart 1 500 2\nstart 2 500 2\nway\nlook 1", "error 29\nok\nerror 29\nok\nok\nway 1\nnode 1 height 0 round 0 step 1 waiting 0 guilts 0\n")
	answers(t, "Z1: a start ahead of the ledger is none", "start 1 500 2\nledger 1 8 2 900\nway\n", "ok\nok\nerror 29\n")
	answers(t, "Z1: a liar ahead of the ledger is none", "liar 77\n"+six+"way\nvote 77 0 1 0 1 1\n", ok(7)+"way 3\nerror 17\n")
	answers(t, "Z1: another ledger has its own liars", six+"liar 4\nway\n"+six+"way\ntwice 4 0 1 0 1\n", ok(7)+"way 3\n"+ok(6)+"way 3\nerror 17\n")
}

func TestAWorldIsNoMore(t *testing.T) {
	behind(t, "Z1: a start more", "calm 2\nstart 60 1 1\nlook 60\nlook 1\n",
		"ok\nok\nnode 60 height 0 round 0 step 0 waiting 0 guilts 0\nnode 1 height 0 round 0 step 1 waiting 0 guilts 0\n")
	behind(t, "Z1: a liar more", "calm 2\ntwice 4 0 1 0 1\nliar 4\nlook 1\ntwice 4 0 1 0 1\nliar 3\ntwice 4 0 1 0 1\ntwice 3 0 1 0 1\ntwice 2 0 1 0 1\n",
		"ok\nerror 17\nok\nnode 1 height 0 round 0 step 1 waiting 0 guilts 0\nok\nok\nok\nok\nerror 17\n")
	behind(t, "Z1: another ledger", "calm 2\nledger 2 8 2 900\nstart 7 5 1\nstart 8 5 1\nway\nlook 1\nlook 7\n",
		"ok\nok\nok\nok\nway 1\nerror 17\nnode 7 height 0 round 0 step 1 waiting 0 guilts 0\n")
	// What is bad changes nothing.
	behind(t, "Z1: what is bad", "calm 2\nliar x\nstart 1\nledger\n\nlook 4\n",
		"ok\nbad\nbad\nbad\nbad\nnode 4 height 2 round -1 step 0 waiting 0 guilts 0\n1 aeefb404b013c5f1 0\n2 7e2dc5994e079629 0\n")
}

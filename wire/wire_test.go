package wire_test

import (
	"encoding/hex"
	"math"
	"math/rand"
	"reflect"
	"slices"
	"strings"
	"testing"

	"assize/api"
	"assize/wire"
)

func named(t *testing.T, name string) thing {
	t.Helper()
	for _, h := range things() {
		if h.name == name {
			return h
		}
	}
	t.Fatal("no thing ", name)
	return thing{}
}

func unhex(t *testing.T, s string) string {
	t.Helper()
	b, err := hex.DecodeString(strings.ReplaceAll(s, " ", ""))
	if err != nil {
		t.Fatal(err)
	}
	return string(b)
}

// W1.
func TestFiveAndEight(t *testing.T) {
	for n, want := range map[int]string{
		0:                 "0000000000",
		258:               "0000000102",
		0x0102030405:      "0102030405",
		api.MaxNumber:     "ffffffffff",
		api.MaxNumber + 4: "0000000003",
		-1:                "ffffffffff",
		-256:              "ffffffff00",
		math.MinInt:       "0000000000",
		math.MaxInt:       "ffffffffff",
	} {
		if got := hex.EncodeToString([]byte(wire.Five(n))); got != want {
			t.Errorf("Five(%d): %s, wanted %s", n, got, want)
		}
	}
	for d, want := range map[api.Digest]string{
		0:                  "0000000000000000",
		3:                  "0000000000000003",
		0x0102030405060708: "0102030405060708",
		1 << 63:            "8000000000000000",
		1<<64 - 1:          "ffffffffffffffff",
	} {
		if got := hex.EncodeToString([]byte(wire.Eight(d))); got != want {
			t.Errorf("Eight(%x): %s, wanted %s", uint64(d), got, want)
		}
	}
}

// W2: the document's example 1, and one of each other thing, byte by byte.
func TestWrittenForms(t *testing.T) {
	header := "0101 0102 0000000000000003 0000000000000004 0000000000000005 0000000000000006 0000000000000007 ffffffffffffffff 0109"
	cert := "0109 020100 0102 01 8000000000000000 0103 0101 0102 020384"
	bench := "0103 0101 0105 0102 0101 03010000 05ffffffffff"
	proof := "0102 00 000000000000000b 02011f 000000000000000c 01 0103 6b6579 0105 76616c7565"
	vote := "0101 00 0101 01 0000000000000007 02012c"
	none := "0101 00 0101 00 0000000000000000 02012c"
	for _, x := range []struct{ name, want string }{
		{"Number", "03011170"},
		{"Vote", vote},
		{"Cert", cert},
		{"Bench", bench},
		{"Header", header},
		{"Proof", proof},
		{"Pay", "0101 0132 0101 0102 030101d0 0103 0119 00 00 00 00"},
		{"Make", "0102 0132 0101 0102 030101d0 00 0119 010e 636f6e7472616374206320" + "7b207d 00 00 00"},
		{"Call", "0103 0132 0101 0102 030101d0 0103 0119 0103 616464 0103 0104 00 05ffffffffff 00 00"},
		{"Show", "0109 0132 0101 0102 030101d0 00 00 00 00 0101" + header + cert + bench + "00"},
		{"Claim", "010a 0132 0101 0102 030101d0 00 00 00 00 00 0101" + proof},
		{"Guilt", vote + none},
		{"Voted", "0101" + vote},
		{"Account", "0201f4 0101 0102 0103 0104 0105 01"},
		{"Parcel", "0102 02012c 00"},
		{"View", "0101 0108 0102 0103 0000000000000004" + bench},
		{"Result", "0110 0107 0108 0102 0101 0102 0103 0104"},
	} {
		h := named(t, x.name)
		mustPut(t, h, h.full(), unhex(t, x.want), api.OK)
		mustGet(t, h, unhex(t, x.want), h.full(), api.OK)
	}
	account := thingOf("Account", fullAccount, wire.PutAccount, wire.GetAccount)
	mustPut(t, account, api.Account{Balance: 500, Bond: 2, Jailed: true}, unhex(t, "0201f4 00 00 0102 00 00 01"), api.OK)
}

// W2: a number takes no more bytes than it needs.
func TestNumbers(t *testing.T) {
	h := named(t, "Number")
	for k := range 41 {
		for _, n := range []int{1<<k - 1, 1 << k, 1<<k + 1} {
			if n <= api.MaxNumber {
				mustPut(t, h, n, numberBytes(uint64(n)), api.OK)
				mustGet(t, h, numberBytes(uint64(n)), n, api.OK)
			} else {
				mustPut(t, h, n, "", api.ErrLimit)
			}
		}
	}
	for _, n := range []int{-1, math.MinInt, math.MaxInt} {
		mustPut(t, h, n, "", api.ErrLimit)
	}
}

// W2, W4: each thing is its fields in order, and is read back; what lacks a byte or has one more is refused.
func TestThereAndBack(t *testing.T) {
	for _, h := range things() {
		s := bytesOf(h.full())
		mustPut(t, h, h.full(), s, api.OK)
		mustGet(t, h, s, h.full(), api.OK)
		mustGet(t, h, s+"\x00", nil, api.ErrLong)
		mustGet(t, h, s+s, nil, api.ErrLong)
		for k := range len(s) {
			mustGet(t, h, s[:k], nil, api.ErrShort)
		}
	}
}

// W2: things that are all 0 or empty, where these may be.
func TestEmptyThings(t *testing.T) {
	for _, name := range []string{"Number", "Bench", "Header", "Proof", "Block", "Account", "Result"} {
		h := named(t, name)
		x := reflect.Zero(reflect.TypeOf(h.full())).Interface()
		mustPut(t, h, x, bytesOf(x), api.OK)
		mustGet(t, h, bytesOf(x), x, api.OK)
	}
	mustPut(t, named(t, "Bench"), []api.Seat{}, "\x00", api.OK)
}

// W3: no number of a thing, wherever it stands, may be below 0 or above MaxNumber, nor a Pos MaxTurns.
func TestNumberLimits(t *testing.T) {
	for _, h := range things() {
		eachChange(h, func(v reflect.Value, place string) []any {
			switch {
			case place == "Turn.Pos":
				return []any{-1, api.MaxTurns, api.MaxTurns + 1, api.MaxNumber, api.MaxNumber + 1}
			case v.Type() == reflect.TypeOf(api.OK):
				return []any{api.Errno(-1), api.Errno(api.MaxNumber + 1)}
			case v.Kind() == reflect.Int:
				return []any{-1, math.MinInt, api.MaxNumber + 1, math.MaxInt}
			}
			return nil
		}, func(x any) { mustPut(t, h, x, "", api.ErrLimit) })
	}
}

// W3: of each text and list, wherever it stands, one more than it may have is refused, just as many are not.
func TestLengthLimits(t *testing.T) {
	for _, h := range things() {
		eachChange(h, func(v reflect.Value, place string) []any {
			if v.Kind() != reflect.Slice && v.Kind() != reflect.String {
				return nil
			}
			return []any{longer(v, most(place)+1), longer(v, most(place)+300)}
		}, func(x any) { mustPut(t, h, x, "", api.ErrLimit) })
		eachChange(h, func(v reflect.Value, place string) []any {
			if v.Kind() != reflect.Slice && v.Kind() != reflect.String {
				return nil
			}
			return []any{longer(v, most(place))}
		}, func(x any) {
			if _, e := h.put(x); e != api.OK && e != api.ErrForm {
				t.Fatalf("Put %s of %#v: %d", h.name, x, e)
			}
		})
	}
}

// eachChange tells each thing that comes of h's by one of the values that change has for one place of it.
func eachChange(h thing, change func(v reflect.Value, place string) []any, tell func(x any)) {
	for at, more := 0, true; more; at++ {
		for k, again := 0, true; again; k++ {
			x := holder(h.full())
			n := 0
			more, again = false, false
			visit(x, "Bench", func(v reflect.Value, place string) {
				if n == at {
					more = true
					if l := change(v, place); k < len(l) {
						again = true
						v.Set(reflect.ValueOf(l[k]))
					}
				}
				n++
			})
			if again {
				tell(x.Interface())
			}
		}
	}
}

// longer: a text or list like v, of n.
func longer(v reflect.Value, n int) any {
	if v.Kind() == reflect.String {
		return strings.Repeat("x", n)
	}
	l := reflect.MakeSlice(v.Type(), n, n)
	for i := range n {
		if v.Len() > 0 {
			l.Index(i).Set(v.Index(i % v.Len()))
		}
	}
	return l.Interface()
}

// W3: as long as may be.
func TestLongest(t *testing.T) {
	cert, bench := fullCert(), []api.Seat{}
	cert.Froms = nil
	proof := api.Proof{Leaf: true, Key: strings.Repeat("k", 32), Value: strings.Repeat("v", 4096)}
	for i := range 7 {
		cert.Froms = append(cert.Froms, i+1)
		bench = append(bench, api.Seat{Who: i + 1, Weight: 1})
	}
	for i := range 288 {
		proof.Turns = append(proof.Turns, api.Turn{Pos: i, Side: 1})
	}
	call, show, claim, view := fullTx(api.Call), fullTx(api.Show), fullTx(api.Claim), fullView()
	call.Text, call.Args = strings.Repeat("t", 2048), make([]int, 8)
	show.Sights[0].Cert, show.Sights[0].Seats = cert, bench
	claim.Proofs[0] = proof
	view.Seats = bench
	block := fullBlock()
	block.Guilts = slices.Repeat([]api.Guilt{fullGuilt()}, 4)
	block.Txs = slices.Repeat([]api.Tx{call, claim}, 8)
	motion := api.Motion{From: 1, Block: block, Basis: []api.Cert{cert}}
	known := api.Known{Cert: cert, Block: block}
	message := api.Message{
		From: 1, Votes: slices.Repeat([]api.Vote{fullVote()}, 512), Motions: []api.Motion{motion, motion},
		Knowns: []api.Known{known, known}, Txs: slices.Repeat([]api.Tx{show}, 16),
	}
	result := api.Result{Code: api.MaxNumber, Notes: make([]api.Note, 64)}
	for name, x := range map[string]any{
		"Cert": cert, "Bench": bench, "Proof": proof, "Call": call, "Show": show, "Claim": claim, "View": view,
		"Block": block, "Message": message, "Result": result,
		"Moved":  api.Record{Kind: api.Moved, Motion: motion},
		"Closed": api.Record{Kind: api.Closed, Known: known},
	} {
		h := named(t, name)
		mustPut(t, h, x, bytesOf(x), api.OK)
		mustGet(t, h, bytesOf(x), x, api.OK)
	}
}

// W3: a limit anywhere is told ahead of what may not be.
func TestLimitAheadOfForm(t *testing.T) {
	mustPut(t, named(t, "Vote"), api.Vote{Stage: 9, From: -1}, "", api.ErrLimit)
	mustPut(t, named(t, "Cert"), api.Cert{Froms: make([]int, 8)}, "", api.ErrLimit)
	b := fullBlock()
	b.Txs[0].From, b.Guilts[1].B.Height = 0, api.MaxNumber+1
	mustPut(t, named(t, "Block"), b, "", api.ErrLimit)
	m := fullMessage()
	m.From, m.Txs[1].Args = 0, make([]int, 9)
	mustPut(t, named(t, "Message"), m, "", api.ErrLimit)
	p := api.Proof{Value: "v", Turns: []api.Turn{{Pos: 5}, {Pos: 288}}}
	mustPut(t, named(t, "Proof"), p, "", api.ErrLimit)
}

// W3, W5: of a record its Kind and what its kind says are asked for limits; all else must be as of a zero record.
func TestRecords(t *testing.T) {
	h := named(t, "Voted")
	for _, kind := range []int{-1, api.MaxNumber + 1, math.MinInt, math.MaxInt} {
		mustPut(t, h, api.Record{Kind: kind}, "", api.ErrLimit)
		mustPut(t, h, api.Record{Kind: kind, Vote: fullVote()}, "", api.ErrLimit)
	}
	for _, kind := range []int{0, 5, 6, api.MaxNumber} {
		mustPut(t, h, api.Record{Kind: kind}, "", api.ErrForm)
		mustPut(t, h, api.Record{Kind: kind, Vote: api.Vote{Height: -1}}, "", api.ErrForm)
		mustPut(t, h, api.Record{Kind: kind, Vote: fullVote()}, "", api.ErrForm)
		s := numberBytes(uint64(kind))
		mustGet(t, h, s, nil, api.ErrForm)
		mustGet(t, h, s+"\x09", nil, api.ErrLong)
		mustGet(t, h, s+bytesOf(fullVote()), nil, api.ErrLong)
	}
	for _, name := range []string{"Voted", "Moved", "Locked", "Closed"} {
		h := named(t, name)
		for _, x := range strangers(h.full().(api.Record)) {
			mustPut(t, h, x, "", api.ErrForm)
		}
		x := h.full().(api.Record)
		x.Motion.Basis = append([]api.Cert{}, x.Motion.Basis...)
		x.Known.Block.Txs = append([]api.Tx{}, x.Known.Block.Txs...)
		x.Known.Cert.Froms = append([]int{}, x.Known.Cert.Froms...)
		mustPut(t, h, x, bytesOf(h.full()), api.OK)
	}
	mustGet(t, h, "", nil, api.ErrShort)
	for kind := api.Voted; kind <= api.Closed; kind++ {
		mustGet(t, h, numberBytes(uint64(kind)), nil, api.ErrShort)
	}
	mustGet(t, h, "\x01\x00"+bytesOf(fullVote()), nil, api.ErrForm)
}

// strangers: x with one field of what its kind does not say.
func strangers(x api.Record) []api.Record {
	var l []api.Record
	add := func(kinds []int, change func(*api.Record)) {
		if slices.Contains(kinds, x.Kind) {
			return
		}
		y := x
		change(&y)
		l = append(l, y)
	}
	voted, moved, known := []int{api.Voted}, []int{api.Moved}, []int{api.Locked, api.Closed}
	add(voted, func(x *api.Record) { x.Vote.Height = 1 })
	add(voted, func(x *api.Record) { x.Vote.Round = -1 })
	add(voted, func(x *api.Record) { x.Vote.Stage = 1 })
	add(voted, func(x *api.Record) { x.Vote.Has = true })
	add(voted, func(x *api.Record) { x.Vote.Block = 1 })
	add(voted, func(x *api.Record) { x.Vote.From = 1 })
	add(moved, func(x *api.Record) { x.Motion.Round = api.MaxNumber + 1 })
	add(moved, func(x *api.Record) { x.Motion.From = 1 })
	add(moved, func(x *api.Record) { x.Motion.Block.Header.Proposer = 1 })
	add(moved, func(x *api.Record) { x.Motion.Block.Txs = make([]api.Tx, 17) })
	add(moved, func(x *api.Record) { x.Motion.Block.Guilts = make([]api.Guilt, 1) })
	add(moved, func(x *api.Record) { x.Motion.Basis = make([]api.Cert, 1) })
	add(known, func(x *api.Record) { x.Known.Cert.Height = 1 })
	add(known, func(x *api.Record) { x.Known.Cert.Round = 1 })
	add(known, func(x *api.Record) { x.Known.Cert.Stage = 1 })
	add(known, func(x *api.Record) { x.Known.Cert.Has = true })
	add(known, func(x *api.Record) { x.Known.Cert.Block = 1 })
	add(known, func(x *api.Record) { x.Known.Cert.Froms = []int{1} })
	add(known, func(x *api.Record) { x.Known.Block.Header.Chain = 1 })
	add(known, func(x *api.Record) { x.Known.Block.Header.Bench = 1 })
	add(known, func(x *api.Record) { x.Known.Block.Txs = make([]api.Tx, 1) })
	add(known, func(x *api.Record) { x.Known.Block.Guilts = make([]api.Guilt, 5) })
	return l
}

// W4: the first that is wrong from the left.
func TestRefusedBytes(t *testing.T) {
	for _, x := range []struct {
		name, bytes string
		want        api.Errno
	}{
		{"Number", "", api.ErrShort},
		{"Number", "01", api.ErrShort},
		{"Number", "02 00", api.ErrShort}, // the nought is not looked at
		{"Number", "05 ffffffff", api.ErrShort},
		{"Number", "06", api.ErrForm}, // nor are six bytes asked for
		{"Number", "ff 01", api.ErrForm},
		{"Number", "06 010203040506", api.ErrForm},
		{"Number", "01 00", api.ErrForm},
		{"Number", "05 00ffffffff", api.ErrForm},
		{"Number", "01 00 00", api.ErrForm}, // ahead of what is left
		{"Number", "00 00", api.ErrLong},
		{"Vote", "0101 00 0101 02", api.ErrForm},
		{"Vote", "0101 00 0101 02 0000000000000007 02012c", api.ErrForm},
		{"Vote", "0101 00 0101 01 00000000000007", api.ErrShort},
		{"Vote", "0101 00 0109 01 0000000000000007 02012c 00", api.ErrLong}, // ahead of the stage
		{"Vote", "0101 00 0109 01 0000000000000007 02012c", api.ErrForm},
		{"Bench", "0108", api.ErrLimit},
		{"Bench", "05ffffffffff", api.ErrLimit},
		{"Bench", "0107", api.ErrShort},
		{"Bench", "0200", api.ErrShort},
		{"Bench", "020007", api.ErrForm},
		{"Proof", "020121", api.ErrLimit},
		{"Proof", "020120", api.ErrShort},
		{"Proof", "0101 020120", api.ErrLimit}, // a Pos of 288, ahead of its side
		{"Proof", "0101 02011f", api.ErrShort},
		{"Proof", "00 01 0121", api.ErrLimit},
		{"Proof", "00 01 0120", api.ErrShort},
		{"Proof", "00 01 00 021001", api.ErrLimit},
		{"Proof", "00 01 00 021000", api.ErrShort},
		{"Proof", "00 01 00 0101", api.ErrShort},
		{"Pay", "0101 0132 0101 0102 0101 0103 0119 020801", api.ErrLimit},
		{"Pay", "0101 0132 0101 0102 0101 0103 0119 020800", api.ErrShort},
		{"Pay", "0101 0132 0101 0102 0101 0103 0119 00 0109", api.ErrLimit},
		{"Pay", "0101 0132 0101 0102 0101 0103 0119 00 00 0102", api.ErrLimit},
		{"Pay", "0101 0132 0101 0102 0101 0103 0119 00 00 00 0102", api.ErrLimit},
		{"Pay", "010b 0132 0101 0102 0101 0103 0119 00 00 00 00", api.ErrForm},
		{"Message", "0101 00 00 020201", api.ErrLimit},
		{"Message", "0101 00 00 020200", api.ErrShort},
		{"Message", "0101 00 00 00 0103", api.ErrLimit},
		{"Message", "0101 00 00 00 00 0103", api.ErrLimit},
		{"Message", "0101 00 00 00 00 00 0111", api.ErrLimit},
		{"Message", "00 00 00 00 00 00 00", api.ErrForm},
		{"Account", "00 00 00 00 00 00 02", api.ErrForm},
		{"Account", "00 00 00 00 00 00", api.ErrShort},
		{"Result", "00 00 00 0141", api.ErrLimit},
		{"Result", "00 00 00 0140", api.ErrShort},
	} {
		mustGet(t, named(t, x.name), unhex(t, x.bytes), nil, x.want)
	}
}

// W4: bytes in which something was changed are read, or refused, as the chapter says; what is read is written so.
func TestSpoiltBytes(t *testing.T) {
	r := rand.New(rand.NewSource(1))
	for _, h := range things() {
		s := bytesOf(h.full())
		for range 1500 {
			b := []byte(s)
			for range 1 + r.Intn(2) {
				k := r.Intn(len(b) + 1)
				switch {
				case r.Intn(3) == 0:
					b = slices.Insert(b, k, byte(r.Intn(10)))
				case k == len(b):
					b = b[:r.Intn(len(b)+1)]
				case r.Intn(2) == 0:
					b = slices.Delete(b, k, k+1)
				default:
					b[k] = byte(r.Intn(10))
				}
			}
			x, e := scanned(h, string(b))
			mustGet(t, h, string(b), x, e)
			if got, f := h.get(string(b)); f == api.OK {
				mustPut(t, h, got, string(b), api.OK)
			}
		}
	}
}

// W4: any bytes whatever.
func TestAnyBytes(t *testing.T) {
	r := rand.New(rand.NewSource(2))
	for _, h := range things() {
		for range 2000 {
			b := make([]byte, r.Intn(40))
			for i := range b {
				b[i] = byte(r.Intn(r.Intn(7) + 1))
			}
			x, e := scanned(h, string(b))
			mustGet(t, h, string(b), x, e)
		}
	}
}

// P2: a thing that was read shares no memory, neither within nor with one that is read again.
func TestReadThingsAreFresh(t *testing.T) {
	for _, h := range things() {
		s := bytesOf(h.full())
		x, _ := h.get(s)
		y, _ := h.get(s)
		apart(t, h.name, holder(x), holder(y))
	}
}

func apart(t *testing.T, name string, l ...reflect.Value) {
	t.Helper()
	type stretch struct{ from, to uintptr }
	var all []stretch
	for _, v := range l {
		visit(v, "Bench", func(v reflect.Value, _ string) {
			if v.Kind() == reflect.Slice && v.Cap() > 0 {
				all = append(all, stretch{v.Pointer(), v.Pointer() + uintptr(v.Cap())*v.Type().Elem().Size()})
			}
		})
	}
	slices.SortFunc(all, func(a, b stretch) int { return int(a.from) - int(b.from) })
	for i := range len(all) - 1 {
		if all[i].to > all[i+1].from {
			t.Errorf("%s: two lists share memory", name)
		}
	}
}

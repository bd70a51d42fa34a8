package wire_test

import (
	"encoding/binary"
	"reflect"
	"testing"

	"assize/api"
	"assize/wire"
)

// A thing that has a Put and a Get, and one of that kind that may be.
type thing struct {
	name string
	full func() any // fresh each time
	put  func(any) (string, api.Errno)
	get  func(string) (any, api.Errno)
}

func thingOf[T any](name string, full func() T, put func(T) (string, api.Errno), get func(string) (T, api.Errno)) thing {
	return thing{
		name,
		func() any { return full() },
		func(x any) (string, api.Errno) { return put(x.(T)) },
		func(s string) (any, api.Errno) { return get(s) },
	}
}

func things() []thing {
	return []thing{
		thingOf("Number", func() int { return 70000 }, wire.PutNumber, wire.GetNumber),
		thingOf("Vote", fullVote, wire.PutVote, wire.GetVote),
		thingOf("Cert", fullCert, wire.PutCert, wire.GetCert),
		thingOf("Bench", fullBench, wire.PutBench, wire.GetBench),
		thingOf("Header", fullHeader, wire.PutHeader, wire.GetHeader),
		thingOf("Proof", fullProof, wire.PutProof, wire.GetProof),
		thingOf("Pay", func() api.Tx { return fullTx(api.Pay) }, wire.PutTx, wire.GetTx),
		thingOf("Make", func() api.Tx { return fullTx(api.Make) }, wire.PutTx, wire.GetTx),
		thingOf("Call", func() api.Tx { return fullTx(api.Call) }, wire.PutTx, wire.GetTx),
		thingOf("Show", func() api.Tx { return fullTx(api.Show) }, wire.PutTx, wire.GetTx),
		thingOf("Claim", func() api.Tx { return fullTx(api.Claim) }, wire.PutTx, wire.GetTx),
		thingOf("Guilt", fullGuilt, wire.PutGuilt, wire.GetGuilt),
		thingOf("Block", fullBlock, wire.PutBlock, wire.GetBlock),
		thingOf("Message", fullMessage, wire.PutMessage, wire.GetMessage),
		thingOf("Voted", func() api.Record { return api.Record{Kind: api.Voted, Vote: fullVote()} }, wire.PutRecord, wire.GetRecord),
		thingOf("Moved", func() api.Record { return api.Record{Kind: api.Moved, Motion: fullMotion()} }, wire.PutRecord, wire.GetRecord),
		thingOf("Locked", func() api.Record { return api.Record{Kind: api.Locked, Known: fullKnown()} }, wire.PutRecord, wire.GetRecord),
		thingOf("Closed", func() api.Record { return api.Record{Kind: api.Closed, Known: fullKnown()} }, wire.PutRecord, wire.GetRecord),
		thingOf("Account", fullAccount, wire.PutAccount, wire.GetAccount),
		thingOf("Parcel", func() api.Parcel { return api.Parcel{Kind: api.Theirs, To: 300, Amount: 0} }, wire.PutParcel, wire.GetParcel),
		thingOf("View", fullView, wire.PutView, wire.GetView),
		thingOf("Result", fullResult, wire.PutResult, wire.GetResult),
	}
}

func fullVote() api.Vote {
	return api.Vote{Height: 1, Round: 0, Stage: api.First, Has: true, Block: 7, From: 300}
}

func fullCert() api.Cert {
	return api.Cert{Height: 9, Round: 256, Stage: api.Second, Has: true, Block: 1 << 63, Froms: []int{1, 2, 900}}
}

func fullBench() []api.Seat {
	return []api.Seat{{Who: 1, Weight: 5}, {Who: 2, Weight: 1}, {Who: 65536, Weight: api.MaxNumber}}
}

func fullHeader() api.Header {
	return api.Header{Chain: 1, Height: 2, Parent: 3, Txs: 4, Guilts: 5, State: 6, Results: 7, Bench: 1<<64 - 1, Proposer: 9}
}

func fullProof() api.Proof {
	return api.Proof{Turns: []api.Turn{{Pos: 0, Side: 11}, {Pos: 287, Side: 12}}, Leaf: true, Key: "key", Value: "value"}
}

func fullSight() api.Sight {
	return api.Sight{Header: fullHeader(), Cert: fullCert(), Seats: fullBench()}
}

func fullTx(kind int) api.Tx {
	t := api.Tx{Kind: kind, From: 50, Nonce: 1, Price: 2, Limit: 66000}
	switch kind {
	case api.Pay, api.Send, api.Return:
		t.To, t.Amount = 3, 25
	case api.Call:
		t.To, t.Amount, t.Text, t.Args = 3, 25, "add", []int{4, 0, api.MaxNumber}
	case api.Make:
		t.Amount, t.Text = 25, "contract c { }"
	case api.Bond, api.Leave:
		t.Amount = 25
	case api.Show:
		t.Sights = []api.Sight{fullSight()}
	case api.Claim:
		t.Proofs = []api.Proof{fullProof()}
	}
	return t
}

func fullGuilt() api.Guilt {
	b := fullVote()
	b.Has, b.Block = false, 0
	return api.Guilt{A: fullVote(), B: b}
}

func fullBlock() api.Block {
	b := api.Block{Header: fullHeader(), Guilts: []api.Guilt{fullGuilt(), fullGuilt()}}
	for kind := api.Pay; kind <= api.Claim; kind++ {
		b.Txs = append(b.Txs, fullTx(kind))
	}
	return b
}

func fullMotion() api.Motion {
	return api.Motion{Round: 3, From: 2, Block: fullBlock(), Basis: []api.Cert{fullCert()}}
}

func fullKnown() api.Known { return api.Known{Cert: fullCert(), Block: fullBlock()} }

func fullMessage() api.Message {
	return api.Message{
		From: 1, To: 2, Height: 3,
		Votes:   []api.Vote{fullVote(), fullVote()},
		Motions: []api.Motion{fullMotion()},
		Knowns:  []api.Known{fullKnown(), fullKnown()},
		Txs:     []api.Tx{fullTx(api.Free), fullTx(api.Call)},
	}
}

func fullAccount() api.Account {
	return api.Account{Balance: 500, Foreign: 1, Nonce: 2, Bond: 3, Leaving: 4, FreeAt: 5, Jailed: true}
}

func fullView() api.View {
	return api.View{Chain: 1, Width: 8, Epoch: 2, Height: 3, State: 4, Seats: fullBench()}
}

func fullResult() api.Result {
	return api.Result{Code: api.ErrGas, Used: 7, Value: 8, Notes: []api.Note{{Who: 1, N: 2}, {Who: 3, N: 4}}}
}

// most: how long a text or list may be (W3), by its type and field.
func most(place string) int {
	switch place {
	case "Cert.Froms", "Bench", "Sight.Seats", "View.Seats":
		return 7
	case "Proof.Turns":
		return 288
	case "Proof.Key":
		return 32
	case "Proof.Value":
		return 4096
	case "Tx.Text":
		return 2048
	case "Tx.Args":
		return 8
	case "Tx.Sights", "Tx.Proofs", "Motion.Basis":
		return 1
	case "Block.Txs", "Message.Txs":
		return 16
	case "Block.Guilts":
		return 4
	case "Message.Votes":
		return 512
	case "Message.Motions", "Message.Knowns":
		return 2
	case "Result.Notes":
		return 64
	}
	panic("no bound for " + place)
}

// written: which fields of a struct are written: all, but of a record.
func written(v reflect.Value) []int {
	var l []int
	for i := range v.NumField() {
		l = append(l, i)
	}
	if v.Type().Name() != "Record" {
		return l
	}
	switch v.Field(0).Int() {
	case api.Voted:
		return []int{0, 1}
	case api.Moved:
		return []int{0, 2}
	case api.Locked, api.Closed:
		return []int{0, 3}
	}
	return []int{0}
}

func placeOf(v reflect.Value, i int) string {
	return v.Type().Name() + "." + v.Type().Field(i).Name
}

// visit calls f with each number, digest, flag, text and list of what is written of v, and where it stands.
func visit(v reflect.Value, place string, f func(v reflect.Value, place string)) {
	switch v.Kind() {
	case reflect.Struct:
		for _, i := range written(v) {
			visit(v.Field(i), placeOf(v, i), f)
		}
	case reflect.Slice:
		f(v, place)
		for i := range v.Len() {
			visit(v.Index(i), place, f)
		}
	default:
		f(v, place)
	}
}

// holder: x where it can be changed.
func holder(x any) reflect.Value {
	v := reflect.New(reflect.TypeOf(x)).Elem()
	v.Set(reflect.ValueOf(x))
	return v
}

func numberBytes(n uint64) string {
	s := ""
	for ; n > 0; n >>= 8 {
		s = string([]byte{byte(n)}) + s
	}
	return string([]byte{byte(len(s))}) + s
}

// bytesOf: what W2 says of any thing, whether it may be or not.
func bytesOf(x any) string {
	var b []byte
	visit(holder(x), "Bench", func(v reflect.Value, _ string) {
		switch v.Kind() {
		case reflect.Int:
			b = append(b, numberBytes(uint64(v.Int()))...)
		case reflect.Uint64:
			b = binary.BigEndian.AppendUint64(b, v.Uint())
		case reflect.Bool:
			if v.Bool() {
				b = append(b, 1)
			} else {
				b = append(b, 0)
			}
		case reflect.String:
			b = append(b, numberBytes(uint64(v.Len()))...)
			b = append(b, v.String()...)
		case reflect.Slice:
			b = append(b, numberBytes(uint64(v.Len()))...)
		}
	})
	return string(b)
}

// scanner reads as W4 says, and keeps the first error.
type scanner struct {
	s string
	e api.Errno
}

func (c *scanner) cut(n int) string {
	if c.e == api.OK && len(c.s) < n {
		c.e = api.ErrShort
	}
	if c.e != api.OK {
		return string(make([]byte, n))
	}
	s := c.s[:n]
	c.s = c.s[n:]
	return s
}

func (c *scanner) fail(e api.Errno) {
	if c.e == api.OK {
		c.e = e
	}
}

func (c *scanner) number(most int) int {
	k := int(c.cut(1)[0])
	if k > 5 {
		c.fail(api.ErrForm)
		return 0
	}
	s := c.cut(k)
	n := 0
	for i := range k {
		n = n*256 + int(s[i])
	}
	if k > 0 && s[0] == 0 {
		c.fail(api.ErrForm)
	}
	if n > most {
		c.fail(api.ErrLimit)
	}
	if c.e != api.OK {
		return 0
	}
	return n
}

func (c *scanner) scan(v reflect.Value, place string) {
	if c.e != api.OK {
		return
	}
	switch v.Kind() {
	case reflect.Int:
		bound := api.MaxNumber
		if place == "Turn.Pos" {
			bound = 287
		}
		v.SetInt(int64(c.number(bound)))
	case reflect.Uint64:
		n := uint64(0)
		for _, b := range []byte(c.cut(8)) {
			n = n<<8 + uint64(b)
		}
		v.SetUint(n)
	case reflect.Bool:
		b := c.cut(1)[0]
		if b > 1 {
			c.fail(api.ErrForm)
		}
		v.SetBool(b == 1)
	case reflect.String:
		v.SetString(c.cut(c.number(most(place))))
	case reflect.Slice:
		n := c.number(most(place))
		v.Set(reflect.MakeSlice(v.Type(), n, n))
		for i := range n {
			c.scan(v.Index(i), place)
		}
	case reflect.Struct:
		done := map[int]int{}
		for range v.NumField() { // which fields a record has is told by its first one
			for _, i := range written(v) {
				if done[i] == 0 {
					done[i] = 1
					c.scan(v.Field(i), placeOf(v, i))
					break
				}
			}
		}
	}
}

// scanned: what W4 asks of Get, by what Put says of the thing that was read.
func scanned(h thing, s string) (any, api.Errno) {
	v := reflect.New(reflect.TypeOf(h.full())).Elem()
	c := &scanner{s: s}
	c.scan(v, "Bench")
	if c.s != "" {
		c.fail(api.ErrLong)
	}
	if c.e == api.OK {
		_, c.e = h.put(v.Interface())
	}
	if c.e != api.OK {
		v.SetZero()
	}
	return v.Interface(), c.e
}

// same: alike, an empty list being nil or not.
func same(a, b any) bool { return reflect.DeepEqual(bare(a), bare(b)) }

// bare: a copy whose empty lists are nil.
func bare(x any) any {
	v := holder(x)
	copyInto(v, reflect.ValueOf(x))
	return v.Interface()
}

func copyInto(to, from reflect.Value) {
	switch from.Kind() {
	case reflect.Slice:
		to.SetZero()
		if from.Len() > 0 {
			to.Set(reflect.MakeSlice(from.Type(), from.Len(), from.Len()))
		}
		for i := range from.Len() {
			copyInto(to.Index(i), from.Index(i))
		}
	case reflect.Struct:
		for i := range from.NumField() {
			copyInto(to.Field(i), from.Field(i))
		}
	default:
		to.Set(from)
	}
}

// mustPut wants an answer of Put; with an error there are no bytes.
func mustPut(t *testing.T, h thing, x any, s string, e api.Errno) {
	t.Helper()
	was := bare(x)
	if got, f := h.put(x); got != s || f != e {
		t.Fatalf("Put %s of %#v: %x, %d; wanted %x, %d", h.name, x, got, f, s, e)
	}
	if !same(was, x) {
		t.Fatalf("Put %s of %#v changed it", h.name, was)
	}
}

// mustGet wants an answer of Get; with an error the thing is all 0.
func mustGet(t *testing.T, h thing, s string, x any, e api.Errno) {
	t.Helper()
	if e != api.OK {
		x = reflect.Zero(reflect.TypeOf(h.full())).Interface()
	}
	if got, f := h.get(s); f != e || !same(got, x) {
		t.Fatalf("Get %s of %x: %#v, %d; wanted %#v, %d", h.name, s, got, f, x, e)
	}
}

package wal

import (
	"testing"

	"assize/api"
	"assize/wire"
)

// No call writes bytes that are no frame, but a disk may: so this is asked of what reads them.

func vote(from int) string {
	s, _ := wire.PutRecord(api.Record{Kind: api.Voted, Vote: api.Vote{Height: 1, Stage: api.First, From: from}})
	return s
}

func TestOneWrongByte(t *testing.T) {
	one, two := frame(vote(1)), frame(vote(2))
	for i := range len(two) {
		for bit := range 8 {
			b := []byte(one + two + one)
			b[len(one)+i] ^= 1 << bit
			l, size := readAll(string(b))
			if len(l) != 1 || size != len(one) {
				t.Fatalf("A3: with the byte %d wrong %d records are read, of %d bytes", i, len(l), size)
			}
		}
	}
}

func TestFramesOfNoRecord(t *testing.T) {
	one := frame(vote(1))
	for _, body := range []string{"", "\x00", "\x01\x05", vote(0), vote(1) + "\x00", vote(1)[:17], "\xff"} {
		l, size := readAll(one + frame(body) + one)
		if len(l) != 1 || size != len(one) {
			t.Errorf("A3: the frame of %x is read: %d records, of %d bytes", body, len(l), size)
		}
	}
	for _, s := range []string{"\xff\xff\xff\xff", "\xff\xff\xff\xff\xff\xff\xff\xff\xff\xff\xff\xff", "\x80\x00\x00\x00\x00\x00\x00\x00\x00\x00\x00\x00" + one} {
		l, size := readAll(one + s)
		if len(l) != 1 || size != len(one) {
			t.Errorf("A3: behind a size that is too great %d records are read, of %d bytes", len(l), size)
		}
	}
}

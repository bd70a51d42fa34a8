package wal

import (
	"strings"

	"assize/api"
	"assize/digest"
	"assize/wire"
)

// The parts of a frame ahead of its record.
const (
	sizeBytes   = 4
	digestBytes = 8
	headBytes   = sizeBytes + digestBytes
)

// frame is what stands in a log for a record that was written as body.
func frame(body string) string {
	size := wire.Five(len(body))
	return size[len(size)-sizeBytes:] + wire.Eight(digest.Of(digestBytes, api.TagLeaf, body)) + body
}

// readFrame reads the record whose frame s begins with: how many bytes the frame has (0: there is none).
func readFrame(s string) (api.Record, int) {
	if len(s) < headBytes {
		return api.Record{}, 0
	}
	end := headBytes
	for i := range sizeBytes {
		end += int(s[i]) << (8 * (sizeBytes - 1 - i))
	}
	if len(s) < end || !strings.HasPrefix(s, frame(s[headBytes:end])) {
		return api.Record{}, 0
	}
	x, e := wire.GetRecord(s[headBytes:end])
	if e != api.OK {
		return api.Record{}, 0
	}
	return x, end
}

// readAll reads the records whose frames stand at the beginning of s, and tells how many bytes those have.
func readAll(s string) (records []api.Record, size int) {
	for {
		x, n := readFrame(s[size:])
		if n == 0 {
			return records, size
		}
		records = append(records, x)
		size += n
	}
}

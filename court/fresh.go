package court

import (
	"assize/api"
	"assize/wire"
)

// fresh is a record that shares nothing with x: it is written, and read again.
// Of one that may not be it is a zero record.
func fresh(x api.Record) api.Record {
	s, _ := wire.PutRecord(x)
	y, _ := wire.GetRecord(s)
	return y
}

func freshMotion(m api.Motion) api.Motion {
	return fresh(api.Record{Kind: api.Moved, Motion: m}).Motion
}

func freshKnown(k api.Known) api.Known {
	return fresh(api.Record{Kind: api.Locked, Known: k}).Known
}

func freshKnowns(l []api.Known) []api.Known {
	var out []api.Known
	for _, k := range l {
		out = append(out, freshKnown(k))
	}
	return out
}

// Package wire: things as bytes: see the document's chapter.
package wire

import (
	"assize/api"
)

// Five writes a number in five bytes, the greatest first (of a greater one the lowest five).
func Five(n int) string { return highFirst(uint64(n), 5) }

// Eight writes a digest in eight bytes, the greatest first.
func Eight(d api.Digest) string { return highFirst(uint64(d), 8) }

func PutNumber(n int) (string, api.Errno) { return put(n, (*pass).number, anything) }

func GetNumber(s string) (int, api.Errno) { return get(s, (*pass).number, anything) }

func PutVote(v api.Vote) (string, api.Errno) { return put(v, (*pass).vote, mayVote) }

func GetVote(s string) (api.Vote, api.Errno) { return get(s, (*pass).vote, mayVote) }

func PutCert(c api.Cert) (string, api.Errno) { return put(c, (*pass).cert, mayCert) }

func GetCert(s string) (api.Cert, api.Errno) { return get(s, (*pass).cert, mayCert) }

func PutBench(l []api.Seat) (string, api.Errno) { return put(l, (*pass).bench, mayBench) }

func GetBench(s string) ([]api.Seat, api.Errno) { return get(s, (*pass).bench, mayBench) }

func PutHeader(h api.Header) (string, api.Errno) { return put(h, (*pass).header, anything) }

func GetHeader(s string) (api.Header, api.Errno) { return get(s, (*pass).header, anything) }

func PutProof(p api.Proof) (string, api.Errno) { return put(p, (*pass).proof, mayProof) }

func GetProof(s string) (api.Proof, api.Errno) { return get(s, (*pass).proof, mayProof) }

func PutTx(t api.Tx) (string, api.Errno) { return put(t, (*pass).tx, mayTx) }

func GetTx(s string) (api.Tx, api.Errno) { return get(s, (*pass).tx, mayTx) }

func PutGuilt(g api.Guilt) (string, api.Errno) { return put(g, (*pass).guilt, mayGuilt) }

func GetGuilt(s string) (api.Guilt, api.Errno) { return get(s, (*pass).guilt, mayGuilt) }

func PutBlock(b api.Block) (string, api.Errno) { return put(b, (*pass).block, mayBlock) }

func GetBlock(s string) (api.Block, api.Errno) { return get(s, (*pass).block, mayBlock) }

func PutMessage(m api.Message) (string, api.Errno) { return put(m, (*pass).message, mayMessage) }

func GetMessage(s string) (api.Message, api.Errno) { return get(s, (*pass).message, mayMessage) }

func PutRecord(x api.Record) (string, api.Errno) { return put(x, (*pass).record, mayRecord) }

func GetRecord(s string) (api.Record, api.Errno) { return get(s, (*pass).record, mayRecord) }

func PutAccount(a api.Account) (string, api.Errno) { return put(a, (*pass).account, anything) }

func GetAccount(s string) (api.Account, api.Errno) { return get(s, (*pass).account, anything) }

func PutParcel(p api.Parcel) (string, api.Errno) { return put(p, (*pass).parcel, mayParcel) }

func GetParcel(s string) (api.Parcel, api.Errno) { return get(s, (*pass).parcel, mayParcel) }

func PutView(v api.View) (string, api.Errno) { return put(v, (*pass).view, mayView) }

func GetView(s string) (api.View, api.Errno) { return get(s, (*pass).view, mayView) }

func PutResult(x api.Result) (string, api.Errno) { return put(x, (*pass).result, anything) }

func GetResult(s string) (api.Result, api.Errno) { return get(s, (*pass).result, anything) }

package auditor

import (
	"plumbob/api"
	"plumbob/octet"
	"plumbob/sha"
)

// Bytes of a record.
const (
	epochSize = 4
	bandSize  = 1
)

// A place has one mark that counts, the last one.
type place struct {
	epoch uint64
	band  int
}

// A mark: the digest of the one header that is attested at a place.
type mark struct{ digest string }

// record of a mark.
func (m mark) record(at place) (string, api.Errno) {
	var w octet.Writer
	return w.Num(at.epoch, epochSize).Num(uint64(at.band), bandSize).Fixed(m.digest, sha.Short).Bytes()
}

// readMark of a record.
func readMark(record string) (place, mark, api.Errno) {
	r := octet.Read(record)
	at := place{epoch: r.Num(epochSize), band: int(r.Num(bandSize))}
	m := mark{digest: r.Fixed(sha.Short)}
	if r.End() != api.OK {
		return place{}, mark{}, api.ErrForm
	}
	return at, m, api.OK
}

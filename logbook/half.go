package logbook

import (
	"slices"
	"strings"

	"plumbob/api"
	"plumbob/octet"
	"plumbob/sha"
)

// Tags of Tagged: DOC.md numbers those of all layers.
const (
	tagName = 7
	tagSum  = 8
)

// A part's sector: bytes of its things, and where these stand.
const (
	turnSize   = 4
	numberSize = 2
	countSize  = 1 // of a part's number, of how many there are, of its bytes' count
	nameSize   = 8
	partSize   = 39
	sumSize    = 8

	partsAt = turnSize + numberSize + countSize
	sizeAt  = partsAt + countSize
	bytesAt = sizeAt + countSize + nameSize
)

// A half's records, and its turn: 0, where there are none.
type half struct {
	turn    uint32
	records []string
	used    int // sectors
}

// Parts: how many sectors a record of so many bytes needs.
func Parts(n int) int {
	if n < 1 {
		return 1
	}
	return (n-1)/partSize + 1
}

// halfOf its sectors: what stands in them.
func halfOf(sectors []string) half {
	h := half{turn: uint32(octet.Read(sectors[0]).Num(turnSize))}
	if h.turn == 0 {
		return half{}
	}
	for h.used < len(sectors) {
		s, ok := h.read(sectors[h.used:])
		if !ok {
			break
		}
		h = h.with(s)
	}
	if len(h.records) == 0 {
		return half{}
	}
	return h
}

// with a record behind the others.
func (h half) with(s string) half {
	h.records = append(h.records, s)
	h.used += Parts(len(s))
	return h
}

// next record's sectors.
func (h half) next(s string) []string {
	number := len(h.records)
	name := nameOf(h.turn, number, s)
	sectors := make([]string, Parts(len(s)))
	for i := range sectors {
		part := s[i*partSize : min((i+1)*partSize, len(s))]
		var w octet.Writer
		w.Num(uint64(h.turn), turnSize).Num(uint64(number), numberSize)
		w.Num(uint64(i), countSize).Num(uint64(len(sectors)), countSize).Num(uint64(len(part)), countSize)
		w.Fixed(name, nameSize).Fixed(part, len(part)).Fixed(noughts(partSize-len(part)), partSize-len(part))
		body, _ := w.Bytes() // all of it fits
		sectors[i] = body + sha.Tagged(tagSum, body)[:sumSize]
	}
	return sectors
}

// read the next record. Its bytes are taken from the parts on trust: whatever
// else these must have is right, if the record's own sectors are the same.
func (h half) read(sectors []string) (string, bool) {
	parts := int(sectors[0][partsAt])
	if parts > len(sectors) {
		return "", false
	}
	var b strings.Builder
	for _, x := range sectors[:parts] {
		size := int(x[sizeAt])
		if size > partSize {
			return "", false
		}
		b.WriteString(x[bytesAt : bytesAt+size])
	}
	s := b.String()
	if len(s) > api.MaxRecord || !slices.Equal(h.next(s), sectors[:parts]) {
		return "", false
	}
	return s, true
}

// nameOf a record.
func nameOf(turn uint32, number int, s string) string {
	var t, n octet.Writer
	turnBytes, _ := t.Num(uint64(turn), turnSize).Bytes()
	numberBytes, _ := n.Num(uint64(number), numberSize).Bytes() // a half has fewer sectors
	return sha.Tagged(tagName, turnBytes, numberBytes, s)[:nameSize]
}

func noughts(n int) string { return strings.Repeat("\x00", n) }

package server

import (
	"plumbob/api"
	"plumbob/octet"
	"plumbob/policy"
	"plumbob/roster"
	"plumbob/xmss"
)

// What records begin with.
const (
	updateMark  = 'u'
	auditorMark = 'r'
	epochMark   = 'c'
)

const (
	markSize  = 1 // bytes
	countSize = 2 // bytes of how many records are an epoch's
	epochSize = 4 // bytes of an epoch
)

func updateRecord(u policy.Update) (string, api.Errno) {
	b, e := u.Encode()
	if e != api.OK {
		return "", e
	}
	return string(updateMark) + b, api.OK
}

// auditorRecord of one that a roster took: all of it has bytes.
func auditorRecord(a roster.Auditor) string {
	key, _ := a.Key.Encode()
	var w octet.Writer
	record, _ := w.Num(auditorMark, markSize).Text(a.Name).Fixed(key, len(key)).Bytes()
	return record
}

// epochRecord of an epoch: its things are counted by MaxItems, and it by a
// book's sectors, so that both fit.
func epochRecord(count int, epoch uint64) string {
	var w octet.Writer
	record, _ := w.Num(epochMark, markSize).Num(uint64(count), countSize).Num(epoch, epochSize).Bytes()
	return record
}

// replay a book's records: the epochs that were published there. False: they
// are no server's.
func (s *Server) replay(records []string) bool {
	var calls []func() api.Errno // of the records behind the last epoch's
	for _, record := range records {
		if count, ok := s.readEpoch(record); ok {
			if count > len(calls) || !allDone(calls[len(calls)-count:]) {
				return false
			}
			s.advance()
			calls = nil
			continue
		}
		call, ok := s.readThing(record)
		if !ok {
			return false
		}
		calls = append(calls, call)
	}
	return true
}

// readEpoch of a record: how many ahead of it are the next epoch's.
func (s *Server) readEpoch(record string) (int, bool) {
	r := octet.Read(record)
	mark, count, epoch := r.Num(markSize), r.Num(countSize), r.Num(epochSize)
	if r.End() != api.OK || mark != epochMark || epoch != uint64(len(s.headers)) {
		return 0, false
	}
	return int(count), true
}

// readThing of a record: the call by which it came.
func (s *Server) readThing(record string) (func() api.Errno, bool) {
	r := octet.Read(record)
	switch r.Num(markSize) {
	case updateMark:
		u, e := policy.Decode(r.Fixed(r.Left()))
		return func() api.Errno { return s.Submit(u) }, e == api.OK
	case auditorMark:
		name := r.Text()
		key, e := xmss.DecodePublic(r.Fixed(r.Left()))
		return func() api.Errno {
			_, e := s.Register(roster.Auditor{Name: name, Key: key})
			return e
		}, e == api.OK
	}
	return nil, false
}

// allDone: does each of the calls tell OK?
func allDone(calls []func() api.Errno) bool {
	for _, call := range calls {
		if call() != api.OK {
			return false
		}
	}
	return true
}

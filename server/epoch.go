package server

import (
	"slices"

	"plumbob/api"
	"plumbob/band"
	"plumbob/header"
	"plumbob/logbook"
	"plumbob/smt"
	"plumbob/trans"
)

// begin with the genesis epoch: the auditors of the directory, and no labels.
// Neither the tree nor the depth gives an error: both were looked at.
func (s *Server) begin() {
	tree := smt.New()
	s.next.auditors.Lay(tree)
	nodes, _ := band.Nodes(tree, s.depth)
	s.end(tree, header.Header{Parent: noughts, Nodes: nodes})
}

// advance to the next epoch: all that waits is done. The bands' keys are
// their own, so that none of the transitions touches another one's nodes.
func (s *Server) advance() []trans.Transition {
	tree, _ := last(s.trees)
	ahead, _ := last(s.headers)
	h := header.Header{Epoch: ahead.Epoch + 1, Parent: ahead.Digest()}
	var l []trans.Transition
	for number := range band.Count(s.depth) {
		var x trans.Transition
		x, tree, _ = trans.Make(tree, number, s.depth, s.changes(number)...)
		h.Nodes = append(h.Nodes, x.New)
		l = append(l, x)
	}
	s.end(tree, h)
	return l
}

// end an epoch: it is published, and nothing waits.
func (s *Server) end(tree *smt.Tree, h header.Header) {
	h.Depth, h.Auditors = s.depth, s.next.auditors.Len()
	s.trees = append(s.trees, tree)
	s.headers = append(s.headers, h)
	s.now = s.next.copied()
	s.waiting = nil
}

// changes of a band's keys by what waits, in order.
func (s *Server) changes(number int) []trans.Change {
	var l []trans.Change
	for _, x := range s.waiting {
		if of, e := band.Of(x.change.Key, s.depth); e == api.OK && of == number {
			l = append(l, x.change)
		}
	}
	return l
}

// records of what waits, and of the epoch behind.
func (s *Server) records() []string {
	var l []string
	for _, x := range s.waiting {
		l = append(l, x.record)
	}
	return append(l, epochRecord(len(s.waiting), uint64(len(s.headers))))
}

// write records behind the others. The epoch's is the last one: where the
// power fails ahead of it, those that last are no epoch's.
func (s *Server) write(records []string) api.Errno {
	parts := 0
	for _, x := range records {
		parts += logbook.Parts(len(x))
	}
	if s.book.Left() < parts {
		return api.ErrFull
	}
	for _, x := range records {
		if e := s.book.Put(x); e != api.OK {
			s.failed = true
			return e
		}
	}
	return api.OK
}

// last of a list, if there is one.
func last[T any](l []T) (T, bool) {
	if len(l) == 0 {
		var none T
		return none, false
	}
	return l[len(l)-1], true
}

// copied: a header with nodes of its own.
func copied(h header.Header) header.Header {
	h.Nodes = slices.Clone(h.Nodes)
	return h
}

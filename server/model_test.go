package server_test

import (
	"encoding/binary"
	"math"
	"slices"
	"strconv"
	"testing"

	"plumbob/api"
	"plumbob/band"
	"plumbob/entry"
	"plumbob/header"
	"plumbob/logbook"
	"plumbob/policy"
	"plumbob/proof"
	"plumbob/roster"
	"plumbob/sector"
	"plumbob/server"
	"plumbob/smt"
	"plumbob/trans"
	"plumbob/xmss"
)

const noughts = "\x00\x00\x00\x00\x00\x00\x00\x00\x00\x00\x00\x00\x00\x00\x00\x00"

// A model of a server by the chapter's words: what was published, epoch by epoch, as plain lists.
type model struct {
	depth   int
	epochs  []epoch
	waiting []thing
}

type epoch struct {
	things []thing
	h      header.Header
}

// thing: an update, where its label isn't empty; else an auditor.
type thing struct {
	u policy.Update
	a roster.Auditor
}

func newModel(t *testing.T, depth int, genesis ...roster.Auditor) *model {
	t.Helper()
	m := &model{depth: depth}
	for _, a := range genesis {
		m.waiting = append(m.waiting, thing{a: a})
	}
	m.publish(t)
	return m
}

// publish what waits: the changes, in order.
func (m *model) publish(t *testing.T) []trans.Change {
	t.Helper()
	var changes []trans.Change
	number := len(m.auditors(len(m.epochs)))
	for _, x := range m.waiting {
		if x.u.Label != "" {
			changes = append(changes, trans.Change{Key: entry.Name(x.u.Label), Value: x.u.Entry.Value()})
		} else {
			changes = append(changes, trans.Change{Key: roster.Place(number), Value: x.a.Value()})
			number++
		}
	}
	h := header.Header{Parent: noughts, Depth: m.depth, Auditors: number}
	if len(m.epochs) > 0 {
		h.Epoch, h.Parent = uint64(len(m.epochs)), m.epochs[len(m.epochs)-1].h.Digest()
	}
	tree := m.tree(t, len(m.epochs))
	for _, c := range changes {
		tree.Put(c.Key, c.Value)
	}
	h.Nodes, _ = band.Nodes(tree, m.depth)
	m.epochs = append(m.epochs, epoch{things: m.waiting, h: h})
	m.waiting = nil
	return changes
}

// tree behind so many epochs, made anew.
func (m *model) tree(t *testing.T, epochs int) *smt.Tree {
	t.Helper()
	tree := smt.New()
	for i, a := range m.auditors(epochs) {
		tree.Put(roster.Place(i), a.Value())
	}
	for _, x := range m.epochs[:epochs] {
		for _, y := range x.things {
			if y.u.Label != "" {
				tree.Put(entry.Name(y.u.Label), y.u.Entry.Value())
			}
		}
	}
	return tree
}

func (m *model) auditors(epochs int) []roster.Auditor {
	var l []roster.Auditor
	for _, x := range m.epochs[:epochs] {
		for _, y := range x.things {
			if y.u.Label == "" {
				l = append(l, y.a)
			}
		}
	}
	return l
}

// history of a label, as published.
func (m *model) history(label string) []entry.Entry {
	var l []entry.Entry
	for _, x := range m.epochs {
		for _, y := range x.things {
			if y.u.Label == label && label != "" {
				l = append(l, y.u.Entry)
			}
		}
	}
	return l
}

// records of an epoch, by the chapter's words.
func (x epoch) records() []string {
	var l []string
	for _, y := range x.things {
		l = append(l, y.record())
	}
	return append(l, behind(len(x.things), int(x.h.Epoch)))
}

// behind the things of an epoch: its own record.
func behind(count, number int) string {
	b := binary.BigEndian.AppendUint16([]byte("c"), uint16(count))
	return string(binary.BigEndian.AppendUint32(b, uint32(number)))
}

func (y thing) record() string {
	if y.u.Label != "" {
		b, _ := y.u.Encode()
		return "u" + b
	}
	key, _ := y.a.Key.Encode()
	return "r" + string([]byte{0, byte(len(y.a.Name))}) + y.a.Name + key
}

// is: does a server tell what the model has?
func (m *model) is(t *testing.T, s *server.Server) {
	t.Helper()
	l := s.Headers()
	if len(l) != len(m.epochs) || s.Pending() != len(m.waiting) {
		t.Fatalf("%d epochs, %d wait, want %d, %d", len(l), s.Pending(), len(m.epochs), len(m.waiting))
	}
	for i, x := range m.epochs {
		if !l[i].Same(x.h) {
			t.Fatal("another header", i)
		}
	}
	m.hasMembers(t, s)
	m.hasLabels(t, s)
}

func (m *model) hasMembers(t *testing.T, s *server.Server) {
	t.Helper()
	for i, x := range m.epochs {
		auditors := m.auditors(i + 1)
		tree := m.tree(t, i+1)
		for number, want := range auditors {
			a, p, e := s.Member(uint64(i), number)
			if e != api.OK || a != want || !isProof(p, tree, roster.Place(number)) || !p.Has(x.h.Root(), roster.Place(number), want.Value(), 0) {
				t.Fatal(i, number, a.Name, e)
			}
		}
		for _, number := range []int{-1, len(auditors), len(auditors) + 1, 64, math.MaxInt, math.MinInt} {
			noMember(t, s, uint64(i), number, api.ErrNone)
		}
	}
	for _, epoch := range []uint64{uint64(len(m.epochs)), uint64(len(m.epochs)) + 1, 1 << 32, math.MaxUint64, 1 << 63} {
		noMember(t, s, epoch, 0, api.ErrEpoch)
		noMember(t, s, epoch, -1, api.ErrEpoch)
	}
}

func noMember(t *testing.T, s *server.Server, epoch uint64, number int, want api.Errno) {
	t.Helper()
	if a, p, e := s.Member(epoch, number); a != (roster.Auditor{}) || !isProof(p, nil, "") || e != want {
		t.Fatal(epoch, number, a.Name, e, want)
	}
}

func (m *model) hasLabels(t *testing.T, s *server.Server) {
	t.Helper()
	tree := m.tree(t, len(m.epochs))
	root := m.epochs[len(m.epochs)-1].h.Root()
	labels := []string{"", "nobody", "Alice", "alice", "bob", "a b", "\xff", "xa"}
	for _, x := range m.epochs {
		for _, y := range x.things {
			labels = append(labels, y.u.Label, y.a.Name)
		}
	}
	for _, y := range m.waiting {
		labels = append(labels, y.u.Label)
	}
	slices.Sort(labels)
	for _, label := range slices.Compact(labels) {
		want := m.history(label)
		a, e := s.Lookup(label)
		if e != api.OK || a.Label != label || !slices.Equal(a.History, want) || !isProof(a.Proof, tree, entry.Name(label)) {
			t.Fatalf("%q: %q, %d entries, %d", label, a.Label, len(a.History), e)
		}
		right := a.Proof.Lacks(root, entry.Name(label), 0)
		if len(want) > 0 {
			right = a.Proof.Has(root, entry.Name(label), want[len(want)-1].Value(), 0)
		}
		if !right {
			t.Fatalf("%q: wrong by the root", label)
		}
	}
}

// isProof: is it the one that layer 14 makes of a tree (none of no key)?
func isProof(p proof.Proof, tree *smt.Tree, key string) bool {
	q, _ := proof.Prove(tree, key, 0)
	return slices.Equal(p.Beside, q.Beside) && p.There == q.There && p.Key == q.Key && p.Value == q.Value
}

// published: Publish of the server and the model tell the same.
func (m *model) published(t *testing.T, s *server.Server) {
	t.Helper()
	tree := m.tree(t, len(m.epochs))
	ahead := m.epochs[len(m.epochs)-1].h
	changes := m.publish(t)
	h, l, e := s.Publish()
	if e != api.OK || !h.Same(m.epochs[len(m.epochs)-1].h) || ahead.Next(h) != api.OK || len(l) != 1<<m.depth {
		t.Fatal(h.Epoch, len(l), e)
	}
	for b, x := range l {
		own := slices.DeleteFunc(slices.Clone(changes), func(c trans.Change) bool {
			of, _ := band.Of(c.Key, m.depth)
			return of != b
		})
		want, _, e := trans.Make(tree, b, m.depth, own...)
		got, f := x.Encode()
		wanted, g := want.Encode()
		if e != api.OK || f != api.OK || g != api.OK || got != wanted || x.Check() != api.OK || x.Old != ahead.Nodes[b] || x.New != h.Nodes[b] {
			t.Fatal("another transition", b, len(x.Steps), len(own), e, f, g)
		}
	}
	m.is(t, s)
}

// submits an update that is let through.
func (m *model) submits(t *testing.T, s *server.Server, u policy.Update) {
	t.Helper()
	if e := s.Submit(u); e != api.OK {
		t.Fatal(u.Label, u.Entry.Version, e)
	}
	m.waiting = append(m.waiting, thing{u: u})
}

// registers an auditor that is let through.
func (m *model) registers(t *testing.T, s *server.Server, a roster.Auditor) {
	t.Helper()
	want := len(m.auditors(len(m.epochs)))
	for _, x := range m.waiting {
		if x.u.Label == "" {
			want++
		}
	}
	if n, e := s.Register(a); n != want || e != api.OK {
		t.Fatal(a.Name, n, want, e)
	}
	m.waiting = append(m.waiting, thing{a: a})
}

// wrote: has the book the records of all epochs, behind those that are told?
func (m *model) wrote(t *testing.T, d *sector.Disk, first, count int) {
	t.Helper()
	var want []string
	for _, x := range m.epochs[1:] {
		want = append(want, x.records()...)
	}
	b, e := logbook.Open(d, first, count)
	if l := b.Records(); e != api.OK || !slices.Equal(l, want) {
		t.Fatalf("%d: %.200q, want %.200q", e, l, want)
	}
}

func disk(t *testing.T, count int) *sector.Disk {
	t.Helper()
	d, e := sector.New(count)
	if e != api.OK {
		t.Fatal(e)
	}
	return d
}

// opened: a server on a whole disk.
func opened(t *testing.T, d *sector.Disk, depth int, genesis ...roster.Auditor) *server.Server {
	t.Helper()
	s, e := server.New(d, 0, d.Count(), depth, genesis...)
	if e != api.OK || s == nil {
		t.Fatal(e)
	}
	return s
}

func keyOf(t *testing.T, seed string, height int) *xmss.Key {
	t.Helper()
	k, e := xmss.New(seed, height)
	if e != api.OK {
		t.Fatal(e)
	}
	return k
}

// auditor whose name and key are its number's; with a short name its record has one part.
func auditor(i int) roster.Auditor {
	return roster.Auditor{Name: "x" + strconv.Itoa(i), Key: xmss.Public{Open: noughts[:15] + string([]byte{byte(i)}), Root: noughts, Height: 4}}
}

func auditors(n int) []roster.Auditor {
	var l []roster.Auditor
	for i := range n {
		l = append(l, auditor(i))
	}
	return l
}

// update of a label to its version: each one's key is that of the label and the version.
func update(t *testing.T, label string, version int) policy.Update {
	t.Helper()
	seed := func(v int) string { return label + " " + strconv.Itoa(v) }
	x := entry.Entry{Version: 1, Key: keyOf(t, seed(1), 0).Public(), Prev: noughts}
	for v := 2; v <= version; v++ {
		x = entry.Entry{Version: uint64(v), Key: keyOf(t, seed(v), 0).Public(), Prev: x.Value()}
	}
	u, e := policy.Sign(keyOf(t, seed(max(version-1, 1)), 0), 0, label, x)
	if e != api.OK {
		t.Fatal(e)
	}
	return u
}

// sectors of a disk, as they lie there.
func sectors(t *testing.T, d *sector.Disk) []string {
	t.Helper()
	var l []string
	for i := range d.Count() {
		s, e := d.Read(i)
		if e != api.OK {
			t.Fatal(e)
		}
		l = append(l, s)
	}
	return l
}

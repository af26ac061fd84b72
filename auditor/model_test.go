package auditor_test

import (
	"crypto/sha256"
	"encoding/binary"
	"slices"
	"testing"

	"plumbob/api"
	"plumbob/attest"
	"plumbob/auditor"
	"plumbob/band"
	"plumbob/header"
	"plumbob/logbook"
	"plumbob/sector"
	"plumbob/smt"
	"plumbob/trans"
	"plumbob/xmss"
)

const noughts = "\x00\x00\x00\x00\x00\x00\x00\x00\x00\x00\x00\x00\x00\x00\x00\x00"

// epoch of a directory: its tree, and its header.
type epoch struct {
	tree *smt.Tree
	h    header.Header
}

func genesis(t *testing.T, depth int) epoch {
	t.Helper()
	tree := smt.New()
	for _, s := range []string{"a", "b", "c"} {
		tree.Put(keyOf(s), "of the genesis")
	}
	return epoch{tree, header.Header{Parent: noughts, Depth: depth, Auditors: 3, Nodes: nodesOf(t, tree, depth)}}
}

// next epoch by keys that get a value, and each band's transition.
func (x epoch) next(t *testing.T, value string, keys ...string) (epoch, []trans.Transition) {
	t.Helper()
	tree, depth := x.tree, x.h.Depth
	var l []trans.Transition
	for b := range 1 << depth {
		var changes []trans.Change
		for _, s := range keys {
			if of, _ := band.Of(keyOf(s), depth); of == b {
				changes = append(changes, trans.Change{Key: keyOf(s), Value: value})
			}
		}
		made, behind, e := trans.Make(tree, b, depth, changes...)
		if e != api.OK {
			t.Fatal(e)
		}
		tree, l = behind, append(l, made)
	}
	h := header.Header{Epoch: x.h.Epoch + 1, Parent: x.h.Digest(), Depth: depth, Auditors: x.h.Auditors, Nodes: nodesOf(t, tree, depth)}
	return epoch{tree, h}, l
}

func keyOf(s string) string {
	d := sha256.Sum256([]byte(s))
	return string(d[:16])
}

func nodesOf(t *testing.T, tree *smt.Tree, depth int) []string {
	t.Helper()
	l, e := band.Nodes(tree, depth)
	if e != api.OK {
		t.Fatal(e)
	}
	return l
}

func disk(t *testing.T, count int) *sector.Disk {
	t.Helper()
	d, e := sector.New(count)
	if e != api.OK {
		t.Fatal(e)
	}
	return d
}

// on: an auditor of a seed on the sectors from 3 on.
func on(t *testing.T, d *sector.Disk, count, height int) *auditor.Auditor {
	t.Helper()
	a, e := auditor.Open(d, 3, count, "seed", height)
	if e != api.OK || a == nil {
		t.Fatal(e)
	}
	return a
}

// bookOn the sectors behind the signer's.
func bookOn(t *testing.T, d *sector.Disk, count int) *logbook.Book {
	t.Helper()
	b, e := logbook.Open(d, 3+8, count-8)
	if e != api.OK {
		t.Fatal(e)
	}
	return b
}

// record of a mark, by the chapter's words.
func record(epoch uint32, band byte, digest string) string {
	return string(append(binary.BigEndian.AppendUint32(nil, epoch), band)) + digest
}

// A model of an auditor by the chapter's words.
type model struct {
	key    *xmss.Key
	next   int
	room   int // sectors of the book's half
	booked []string
}

func newModel(t *testing.T, count, height int) *model {
	t.Helper()
	k, e := xmss.New("seed", height)
	if e != api.OK {
		t.Fatal(e)
	}
	return &model{key: k, room: (count - 8) / 2}
}

// marked: what the last record of an epoch and a band has.
func (m *model) marked(epoch uint64, band int) (string, bool) {
	for _, s := range slices.Backward(m.booked) {
		if uint64(binary.BigEndian.Uint32([]byte(s[:4]))) == epoch && int(s[4]) == band {
			return s[5:], true
		}
	}
	return "", false
}

// refusal that the chapter names first, if there is one.
func (m *model) refusal(number int, parent, h header.Header, x trans.Transition) api.Errno {
	if e := parent.Next(h); e != api.OK {
		return e
	}
	if e := x.Check(); e != api.OK {
		return e
	}
	if x.Depth != h.Depth || x.Old != parent.Nodes[x.Band] || x.New != h.Nodes[x.Band] {
		return api.ErrRoot
	}
	if number < 0 || number > 63 {
		return api.ErrRange
	}
	digest, marked := m.marked(h.Epoch, x.Band)
	switch {
	case marked && digest != h.Digest():
		return api.ErrTwice
	case m.next == m.key.Count():
		return api.ErrSpent
	case !marked && len(m.booked) == m.room:
		return api.ErrFull
	}
	return api.OK
}

// asked: an auditor attests what the model does, and with the very signature.
func (m *model) asked(t *testing.T, a *auditor.Auditor, number int, parent, h header.Header, x trans.Transition) api.Errno {
	t.Helper()
	want := m.refusal(number, parent, h, x)
	got, e := a.Attest(number, parent, h, x)
	if e != want {
		t.Fatalf("%d, want %d", e, want)
	}
	if e != api.OK {
		if !isZero(got) {
			t.Fatal("beside an error:", got)
		}
		m.is(t, a)
		return e
	}
	all := attest.Attestation{Epoch: h.Epoch, Band: x.Band, Header: h.Digest(), Number: number}
	all.Sig, _ = m.key.Sign(m.next, all.Message())
	if !same(got, all) || !got.Verify(a.Public()) {
		t.Fatal("another attestation")
	}
	m.next++
	if _, ok := m.marked(h.Epoch, x.Band); !ok {
		m.booked = append(m.booked, record(uint32(h.Epoch), byte(x.Band), h.Digest()))
	}
	m.is(t, a)
	return api.OK
}

// is: an auditor tells what the model has.
func (m *model) is(t *testing.T, a *auditor.Auditor) {
	t.Helper()
	if a.Public() != m.key.Public() || a.Left() != m.key.Count()-m.next {
		t.Fatal(a.Left(), m.key.Count()-m.next)
	}
	for epoch := range uint64(8) {
		for band := -1; band < 5; band++ {
			want, marked := m.marked(epoch, band)
			if s, ok := a.Marked(epoch, band); s != want || ok != marked {
				t.Fatalf("%d %d: %x %t, want %x %t", epoch, band, s, ok, want, marked)
			}
		}
	}
}

func same(a, b attest.Attestation) bool {
	return a.Epoch == b.Epoch && a.Band == b.Band && a.Header == b.Header && a.Number == b.Number &&
		a.Sig.Index == b.Sig.Index && slices.Equal(a.Sig.Chains, b.Sig.Chains) && slices.Equal(a.Sig.Path, b.Sig.Path)
}

func isZero(a attest.Attestation) bool {
	return same(a, attest.Attestation{}) && len(a.Sig.Chains) == 0 && len(a.Sig.Path) == 0
}

// sectors of a disk, as they lie there.
func sectors(t *testing.T, d *sector.Disk) []string {
	t.Helper()
	var l []string
	for i := range d.Count() {
		s, e := d.Read(i)
		if e != api.OK {
			t.Fatal(e)
		}
		l = append(l, s)
	}
	return l
}

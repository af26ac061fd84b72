package client_test

import (
	"slices"
	"strconv"
	"testing"

	"plumbob/api"
	"plumbob/attest"
	"plumbob/band"
	"plumbob/client"
	"plumbob/cover"
	"plumbob/entry"
	"plumbob/header"
	"plumbob/proof"
	"plumbob/roster"
	"plumbob/server"
	"plumbob/smt"
	"plumbob/xmss"
)

const noughts = "\x00\x00\x00\x00\x00\x00\x00\x00\x00\x00\x00\x00\x00\x00\x00\x00"

// directory: who may put into its tree whatever there is, and have it certified.
type directory struct {
	t       *testing.T
	depth   int
	keys    []*xmss.Key
	all     *roster.Roster
	tree    *smt.Tree // with what waits
	trees   []*smt.Tree
	headers []header.Header
}

func newDirectory(t *testing.T, auditors, depth int) *directory {
	t.Helper()
	x := &directory{t: t, depth: depth, all: roster.New(), tree: smt.New()}
	x.register(auditors)
	x.publish()
	return x
}

// register so many auditors more.
func (x *directory) register(count int) {
	x.t.Helper()
	for range count {
		i := len(x.keys)
		k := keyOf(x.t, "auditor "+strconv.Itoa(i))
		x.keys = append(x.keys, k)
		if _, e := x.all.Add(roster.Auditor{Name: "x" + strconv.Itoa(i), Key: k.Public()}); e != api.OK {
			x.t.Fatal(e)
		}
	}
	x.all.Lay(x.tree)
}

func keyOf(t *testing.T, seed string) *xmss.Key {
	t.Helper()
	k, e := xmss.New(seed, 0)
	if e != api.OK {
		t.Fatal(e)
	}
	return k
}

// put the last entry's value of a label.
func (x *directory) put(label string, l []entry.Entry) {
	x.tree.Put(entry.Name(label), l[len(l)-1].Value())
}

// next header of the tree with what waits; it isn't published.
func (x *directory) next() header.Header {
	x.t.Helper()
	nodes, e := band.Nodes(x.tree, x.depth)
	if e != api.OK {
		x.t.Fatal(e)
	}
	h := header.Header{Parent: noughts, Depth: x.depth, Auditors: x.all.Len(), Nodes: nodes}
	if n := len(x.headers); n > 0 {
		h.Epoch, h.Parent = uint64(n), x.headers[n-1].Digest()
	}
	return h
}

func (x *directory) publish() header.Header {
	x.t.Helper()
	h := x.next()
	x.headers, x.trees = append(x.headers, h), append(x.trees, x.tree.Copy())
	return h
}

// active auditors for an epoch, by the chapter's words.
func (x *directory) active(epoch int) int {
	if epoch < 2 {
		return x.headers[0].Auditors
	}
	return x.headers[epoch-2].Auditors
}

// certified: a header with the votes of all slots of windows among so many auditors.
func (x *directory) certified(h header.Header, active int, r cover.Rules) cover.Certificate {
	x.t.Helper()
	windows, e := cover.Windows(x.headers[h.Epoch-1], active, r)
	if e != api.OK {
		x.t.Fatal(e)
	}
	c := cover.Certificate{Header: h}
	for b, in := range windows {
		for _, number := range in {
			c.Votes = append(c.Votes, x.vote(h, b, number))
		}
	}
	return c
}

func (x *directory) vote(h header.Header, b, number int) cover.Vote {
	x.t.Helper()
	v := cover.Vote{Attestation: attest.Attestation{Epoch: h.Epoch, Band: b, Header: h.Digest(), Number: number}}
	v.Auditor, _ = x.all.At(number)
	v.Proof, _ = proof.Prove(x.trees[h.Epoch-1], roster.Place(number), 0)
	v.Sig, _ = x.keys[number].Sign(0, v.Message())
	return v
}

// accepted: the next epoch is published, and a client accepts it.
func (x *directory) accepted(c *client.Client, r cover.Rules) {
	x.t.Helper()
	h := x.publish()
	if e := c.Accept(x.certified(h, x.active(int(h.Epoch)), r)); e != api.OK {
		x.t.Fatal(h.Epoch, e)
	}
}

// answer for a label by the last tree that is published, with these entries.
func (x *directory) answer(label string, l ...entry.Entry) server.Answer {
	x.t.Helper()
	p, e := proof.Prove(x.trees[len(x.trees)-1], entry.Name(label), 0)
	if e != api.OK {
		x.t.Fatal(e)
	}
	return server.Answer{Label: label, History: l, Proof: p}
}

// begun: a client of the genesis header.
func (x *directory) begun(r cover.Rules) *client.Client {
	x.t.Helper()
	c, e := client.New(x.headers[0], r)
	if e != api.OK || c == nil {
		x.t.Fatal(e)
	}
	return c
}

// has: a client has these headers, and so many active auditors.
func has(t *testing.T, c *client.Client, active int, headers ...header.Header) {
	t.Helper()
	if l := c.Headers(); !slices.EqualFunc(l, headers, header.Header.Same) || c.Active() != active {
		t.Fatal(len(l), len(headers), c.Active(), active)
	}
}

// history of so many entries; what tells apart several of one label.
func history(t *testing.T, label, what string, count int) []entry.Entry {
	t.Helper()
	var l []entry.Entry
	prev := noughts
	for v := range count {
		x := entry.Entry{Version: uint64(v + 1), Key: keyOf(t, label+what+strconv.Itoa(v)).Public(), Prev: prev}
		l, prev = append(l, x), x.Value()
	}
	return l
}

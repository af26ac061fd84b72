package monitor_test

import (
	"math/rand"
	"slices"
	"strconv"
	"strings"
	"testing"

	"plumbob/api"
	"plumbob/band"
	"plumbob/client"
	"plumbob/cover"
	"plumbob/entry"
	"plumbob/header"
	"plumbob/item"
	"plumbob/monitor"
	"plumbob/proof"
	"plumbob/server"
	"plumbob/sha"
	"plumbob/smt"
	"plumbob/xmss"
)

const noughts = "\x00\x00\x00\x00\x00\x00\x00\x00\x00\x00\x00\x00\x00\x00\x00\x00"

// key of a number: nobody signs with it.
func key(n int) xmss.Public {
	x := strconv.Itoa(n)
	return xmss.Public{Open: sha.Tagged(1, x), Root: sha.Tagged(2, x), Height: n % 7}
}

// history of entries with the keys of these numbers.
func history(keys ...int) []entry.Entry {
	var l []entry.Entry
	prev := noughts
	for i, n := range keys {
		x := entry.Entry{Version: uint64(i + 1), Key: key(n), Prev: prev}
		l, prev = append(l, x), x.Value()
	}
	return l
}

// rising numbers, from one on.
func rising(from, count int) []int {
	var l []int
	for i := range count {
		l = append(l, from+i)
	}
	return l
}

// A directory is what a client trusts: whose last header is its tree's.
type directory struct {
	tree   *smt.Tree
	client *client.Client
}

// holding a history of a label, and one of another label.
func holding(t *testing.T, label string, l []entry.Entry) directory {
	t.Helper()
	x := directory{tree: smt.New()}
	x.tree.Put(entry.Name("nobody else"), "a value")
	if len(l) > 0 {
		x.tree.Put(entry.Name(label), l[len(l)-1].Value())
	}
	nodes, e := band.Nodes(x.tree, 1)
	if e != api.OK {
		t.Fatal(e)
	}
	h := header.Header{Parent: noughts, Depth: 1, Auditors: 1, Nodes: nodes}
	if x.client, e = client.New(h, cover.Rules{Slots: 1, Needed: 1}); e != api.OK {
		t.Fatal(e)
	}
	return x
}

func (x directory) answer(t *testing.T, label string, l []entry.Entry) server.Answer {
	t.Helper()
	p, e := proof.Prove(x.tree, entry.Name(label), 0)
	if e != api.OK {
		t.Fatal(e)
	}
	return server.Answer{Label: label, History: l, Proof: p}
}

// A model of a monitor by the chapter's words, beside the monitor.
type model struct {
	m     *monitor.Monitor
	label string
	keys  []xmss.Public
	seen  []entry.Entry
}

func newModel(t *testing.T, label string) *model {
	t.Helper()
	m, e := monitor.New(label)
	if e != api.OK || m == nil {
		t.Fatal(label, e)
	}
	x := &model{m: m, label: label}
	x.is(t)
	return x
}

func (x *model) own(t *testing.T, l ...xmss.Public) {
	t.Helper()
	for _, k := range l {
		x.m.Own(k)
		x.keys = append(x.keys, k)
	}
	x.is(t)
}

// see an answer: does the monitor tell what the model does, now and ever after?
func (x *model) see(t *testing.T, c *client.Client, a server.Answer) (bool, api.Errno) {
	t.Helper()
	all, want := x.sees(c, a)
	if ok, e := x.m.See(c, a); ok != all || e != want {
		t.Fatalf("%q, %d entries: %t %d, want %t %d", a.Label, len(a.History), ok, e, all, want)
	}
	x.is(t)
	return all, want
}

func (x *model) sees(c *client.Client, a server.Answer) (bool, api.Errno) {
	if c == nil {
		return false, api.ErrArg
	}
	if a.Label != x.label {
		return false, api.ErrNone
	}
	if _, _, e := c.Check(a); e != api.OK {
		return false, e
	}
	if len(a.History) < len(x.seen) {
		return false, api.ErrVersion
	}
	for i, y := range x.seen {
		if y != a.History[i] {
			return false, api.ErrRoot
		}
	}
	x.seen = slices.Clone(a.History)
	return len(x.strange()) == 0, api.OK
}

// strange versions.
func (x *model) strange() []int64 {
	var l []int64
	for _, y := range x.seen {
		if !slices.Contains(x.keys, y.Key) {
			l = append(l, int64(y.Version))
		}
	}
	return l
}

// is the monitor as the model?
func (x *model) is(t *testing.T) {
	t.Helper()
	if l := x.m.Known(); !slices.Equal(l, x.seen) {
		t.Fatal(len(l), len(x.seen))
	}
	var versions []string
	for _, v := range x.strange() {
		versions = append(versions, strconv.FormatInt(v, 10))
	}
	want := item.Show(item.Text(x.label)) + " " + strconv.Itoa(len(x.seen)) + " [" + strings.Join(versions, " ") + "]"
	if s := item.Show(x.m.Report()); s != "["+want+"]" {
		t.Fatal(s, want)
	}
	label, count, l, e := monitor.Read(x.m.Report())
	if e != api.OK || label != x.label || count != len(x.seen) || !slices.Equal(l, x.strange()) {
		t.Fatal(label, count, l, e)
	}
}

// sees a history as a directory that has it answers it.
func sees(t *testing.T, x *model, l []entry.Entry, all bool, want api.Errno) {
	t.Helper()
	d := holding(t, x.label, l)
	if ok, e := x.see(t, d.client, d.answer(t, x.label, l)); ok != all || e != want {
		t.Fatal(len(l), ok, e)
	}
}

// Directories that grow, forget, change their minds, and answer by old trees.
func TestMonitorsAsTheModel(t *testing.T) {
	told := map[api.Errno]int{}
	for seed := range 200 {
		r := rand.New(rand.NewSource(int64(seed)))
		x := newModel(t, "alice")
		var l []entry.Entry
		var keys []int
		old := []directory{holding(t, "alice", nil)}
		for range 20 {
			switch r.Intn(8) {
			case 0:
				keys = keys[:r.Intn(len(keys)+1)]
			case 1:
				x.own(t, key(r.Intn(4)))
			default:
				keys = append(slices.Clone(keys), r.Intn(4))
			}
			l = history(keys...)
			old = append(old, holding(t, "alice", l))
			d := old[len(old)-1]
			if r.Intn(4) == 0 {
				d = old[r.Intn(len(old))]
			}
			a := old[len(old)-1].answer(t, "alice", l)
			switch r.Intn(20) {
			case 0:
				a = d.answer(t, "bob", nil)
			case 1:
				d.client = nil
			case 2:
				a.History = history(rising(0, r.Intn(4))...)
			}
			_, e := x.see(t, d.client, a)
			told[e]++
		}
	}
	for _, e := range []api.Errno{api.OK, api.ErrArg, api.ErrNone, api.ErrProof, api.ErrVersion, api.ErrRoot} {
		if told[e] < 20 {
			t.Error(e, told[e])
		}
	}
}

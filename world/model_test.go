package world_test

import (
	"maps"
	"slices"
	"strconv"
	"testing"

	"plumbob/api"
	"plumbob/attest"
	"plumbob/bag"
	"plumbob/band"
	"plumbob/cover"
	"plumbob/entry"
	"plumbob/header"
	"plumbob/label"
	"plumbob/octet"
	"plumbob/roster"
	"plumbob/smt"
	"plumbob/trans"
	"plumbob/world"
	"plumbob/xmss"
)

const (
	noughts = "\x00\x00\x00\x00\x00\x00\x00\x00\x00\x00\x00\x00\x00\x00\x00\x00"

	signatures = 16 // of a key of height 4
	room       = 256
	inRound    = 300

	task = 1
	vote = 2
)

// A model of a world by the chapter's words. It makes no signatures: what an
// auditor would attest it knows, and looks for in the world's letters.
type model struct {
	w        *world.World
	rules    cover.Rules
	auditors []roster.Auditor
	signed   []int           // by each auditor: so many indices
	marks    map[mark]string // headers' digests

	headers   []header.Header
	tree      *smt.Tree // as published last
	histories map[string][]entry.Entry
	owners    map[string]int // which N a label's last key had
	waiting   []submitted

	letters   []*letter
	tasks     []string // of each band of the last epoch
	windows   [][]int
	votes     map[[2]int]bool
	certified int
	clients   []int // how many headers each has
}

type mark struct {
	auditor, band int
	epoch         uint64
}

type submitted struct {
	label string
	x     entry.Entry
}

// A letter; of a vote that wasn't spoilt, what it attests.
type letter struct {
	bag.Letter
	says *attest.Attestation
}

func modulo(n, count int) int { return (n%count + count) % count }

func newModel(t *testing.T, auditors, clients, depth int, r cover.Rules) *model {
	t.Helper()
	w, e := world.New(auditors, clients, depth, r)
	if e != api.OK {
		t.Fatal(e)
	}
	m := &model{
		w: w, rules: r, signed: make([]int, auditors), marks: map[mark]string{}, tree: smt.New(), clients: make([]int, clients),
		histories: map[string][]entry.Entry{}, owners: map[string]int{},
	}
	for i := range auditors {
		a, _, e := w.Server().Member(0, i)
		if e != api.OK {
			t.Fatal(i, e)
		}
		m.auditors = append(m.auditors, a)
		m.tree.Put(roster.Place(i), a.Value())
	}
	for i := range clients {
		m.clients[i] = 1
	}
	m.headers = w.Server().Headers()
	return m
}

// do a step in the world and in the model: are they the same ever after?
func (m *model) do(t *testing.T, x world.Step) api.Errno {
	t.Helper()
	want := m.step(t, x)
	if e := m.w.Do(x); e != want {
		t.Fatal(x, e, want)
	}
	if x.Kind == world.Publish && want == api.OK {
		m.published(t)
	}
	m.is(t)
	return want
}

// done: a step that is OK.
func (m *model) done(t *testing.T, l ...world.Step) {
	t.Helper()
	for _, x := range l {
		if e := m.do(t, x); e != api.OK {
			t.Fatal(x, e)
		}
	}
}

func (m *model) step(t *testing.T, x world.Step) api.Errno {
	t.Helper()
	switch x.Kind {
	case world.Update:
		return m.update(t, x.Text, modulo(x.N, 64))
	case world.Publish:
		if len(m.headers)-1 != m.certified {
			return api.ErrState
		}
	case world.Poll:
		m.clients[modulo(x.N, len(m.clients))] = 1 + m.certified
	case world.Restart:
	case world.Round:
		m.round()
	case world.Deliver, world.Drop, world.Again, world.Turn:
		if len(m.letters) == 0 {
			return api.ErrNone
		}
		m.handle(modulo(x.N, len(m.letters)), x)
	default:
		return api.ErrArg
	}
	return api.OK
}

func ownerKey(t *testing.T, label string, n int) *xmss.Key {
	t.Helper()
	k, e := xmss.New("owner"+label+strconv.Itoa(n), 0)
	if e != api.OK {
		t.Fatal(e)
	}
	return k
}

func (m *model) update(t *testing.T, name string, n int) api.Errno {
	t.Helper()
	normal, e := label.Normal(name)
	if e != api.OK {
		return e
	}
	if normal != name {
		return api.ErrForm
	}
	if slices.ContainsFunc(m.waiting, func(x submitted) bool { return x.label == name }) {
		return api.ErrVersion
	}
	x := entry.Entry{Version: 1, Key: ownerKey(t, name, n).Public(), Prev: noughts}
	if l := m.histories[name]; len(l) > 0 {
		x.Version, x.Prev = uint64(len(l)+1), l[len(l)-1].Value()
	}
	m.owners[name] = n
	m.waiting = append(m.waiting, submitted{label: name, x: x})
	return api.OK
}

// published: the server's last header and the tasks, by what waited.
func (m *model) published(t *testing.T) {
	t.Helper()
	ahead := m.headers[len(m.headers)-1]
	m.headers = m.w.Server().Headers()
	h := m.headers[len(m.headers)-1]
	if len(m.headers) != m.certified+2 || ahead.Next(h) != api.OK {
		t.Fatal("no next epoch", len(m.headers))
	}
	m.tasks, m.votes = nil, map[[2]int]bool{}
	l := m.transitions(t, ahead.Depth)
	for b, x := range l {
		if x.Old != ahead.Nodes[b] || x.New != h.Nodes[b] {
			t.Fatal("another node of the band", b)
		}
		m.tasks = append(m.tasks, body(t, ahead, h, x))
	}
	for _, x := range m.waiting {
		m.histories[x.label] = append(m.histories[x.label], x.x)
	}
	m.waiting = nil
	active := m.headers[max(0, len(m.headers)-3)].Auditors
	var e api.Errno
	if m.windows, e = cover.Windows(ahead, active, m.rules); e != api.OK {
		t.Fatal(e)
	}
	m.sendTasks()
}

// transitions of all bands by what waits; the tree is as behind them.
func (m *model) transitions(t *testing.T, depth int) []trans.Transition {
	t.Helper()
	var l []trans.Transition
	for b := range band.Count(depth) {
		var changes []trans.Change
		for _, x := range m.waiting {
			if of, _ := band.Of(entry.Name(x.label), depth); of == b {
				changes = append(changes, trans.Change{Key: entry.Name(x.label), Value: x.x.Value()})
			}
		}
		x, tree, e := trans.Make(m.tree, b, depth, changes...)
		if e != api.OK {
			t.Fatal(e)
		}
		m.tree = tree
		l = append(l, x)
	}
	return l
}

// body of a task.
func body(t *testing.T, parent, h header.Header, x trans.Transition) string {
	t.Helper()
	p, e := parent.Encode()
	s, f := h.Encode()
	b, g := x.Encode()
	if e != api.OK || f != api.OK || g != api.OK {
		t.Fatal(e, f, g)
	}
	return text(p) + text(s) + text(b)
}

// text with its length ahead.
func text(s string) string { return string([]byte{byte(len(s) >> 8), byte(len(s))}) + s }

func (m *model) put(x letter) {
	if len(m.letters) < room {
		m.letters = append(m.letters, &x)
	}
}

// sendTasks to all of whom there is no vote.
func (m *model) sendTasks() {
	if m.certified == len(m.headers)-1 {
		return
	}
	for b, l := range m.windows {
		for _, number := range l {
			if !m.votes[[2]int{b, number}] {
				m.put(letter{Letter: bag.Letter{To: number + 1, Kind: task, Body: m.tasks[b]}})
			}
		}
	}
}

func (m *model) handle(i int, x world.Step) {
	at := m.letters[i]
	switch x.Kind {
	case world.Drop:
		m.letters = slices.Delete(m.letters, i, i+1)
	case world.Again:
		m.put(*at)
	case world.Turn:
		if at.Body != "" {
			b := []byte(at.Body)
			b[modulo(x.M, len(b))] ^= 1
			at.Body, at.says = string(b), nil
		}
	case world.Deliver:
		m.letters = slices.Delete(m.letters, i, i+1)
		m.deliver(at)
	}
}

func (m *model) deliver(x *letter) {
	number := x.To - 1
	if x.Kind == task && number >= 0 && number < len(m.auditors) {
		m.attest(number, x.Body)
	}
	if x.Kind == vote && x.To == 0 {
		m.gather(x)
	}
}

// attest by layer 25's words.
func (m *model) attest(number int, body string) {
	parent, h, x, ok := asked(body)
	if !ok || parent.Next(h) != api.OK || x.Check() != api.OK {
		return
	}
	if x.Depth != h.Depth || x.Old != parent.Nodes[x.Band] || x.New != h.Nodes[x.Band] {
		return
	}
	at := mark{auditor: number, band: x.Band, epoch: h.Epoch}
	if was, ok := m.marks[at]; ok && was != h.Digest() || m.signed[number] == signatures {
		return
	}
	m.marks[at] = h.Digest()
	says := attest.Attestation{Epoch: h.Epoch, Band: x.Band, Header: h.Digest(), Number: number, Sig: xmss.Sig{Index: m.signed[number]}}
	m.signed[number]++
	m.put(letter{Letter: bag.Letter{From: number + 1, Kind: vote}, says: &says})
}

// asked by a task of three Texts.
func asked(body string) (parent, h header.Header, x trans.Transition, ok bool) {
	r := octet.Read(body)
	a, b, c := r.Text(), r.Text(), r.Text()
	if r.End() != api.OK {
		return
	}
	parent, e := header.Decode(a)
	h, f := header.Decode(b)
	x, g := trans.Decode(c)
	return parent, h, x, e == api.OK && f == api.OK && g == api.OK
}

// gather a vote, that is right or not.
func (m *model) gather(x *letter) {
	if m.certified == len(m.headers)-1 {
		return
	}
	says := x.says
	if says == nil {
		a, e := attest.Decode(x.Body)
		if e != api.OK || a.Number >= len(m.auditors) || !a.Verify(m.auditors[a.Number].Key) {
			return
		}
		says = &a
	}
	h := m.headers[len(m.headers)-1]
	if says.Epoch != h.Epoch || says.Header != h.Digest() || says.Band >= len(m.windows) || !slices.Contains(m.windows[says.Band], says.Number) {
		return
	}
	m.votes[[2]int{says.Band, says.Number}] = true
	for b := range m.windows {
		n := 0
		for at := range maps.Keys(m.votes) {
			if at[0] == b {
				n++
			}
		}
		if n < m.rules.Needed {
			return
		}
	}
	m.certified++
}

func (m *model) round() {
	m.sendTasks()
	for n := 0; n < inRound && len(m.letters) > 0; n++ {
		x := m.letters[0]
		m.letters = m.letters[1:]
		m.deliver(x)
	}
	for i := range m.clients {
		m.clients[i] = 1 + m.certified
	}
}

// is: does the world tell what the model has?
func (m *model) is(t *testing.T) {
	t.Helper()
	if m.w.Certified() != m.certified || m.w.Server().Pending() != len(m.waiting) {
		t.Fatalf("%d certified, %d wait, want %d, %d", m.w.Certified(), m.w.Server().Pending(), m.certified, len(m.waiting))
	}
	m.hasHeaders(t)
	m.hasLetters(t)
}

func (m *model) hasHeaders(t *testing.T) {
	t.Helper()
	if l := m.w.Server().Headers(); !slices.EqualFunc(l, m.headers, header.Header.Same) {
		t.Fatal("other epochs", len(l), len(m.headers))
	}
	for i, n := range m.clients {
		if l := m.w.Client(i).Headers(); !slices.EqualFunc(l, m.headers[:n], header.Header.Same) {
			t.Fatalf("client %d has %d headers, want %d", i, len(l), n)
		}
	}
}

// hasLetters: each is taken, and put again.
func (m *model) hasLetters(t *testing.T) {
	t.Helper()
	b := m.w.Bag()
	if b.Len() != len(m.letters) {
		t.Fatalf("%d letters, want %d", b.Len(), len(m.letters))
	}
	for i, want := range m.letters {
		x, ok := b.Take(0)
		if !ok || !b.Put(x) {
			t.Fatal("no letter", i)
		}
		if want.says != nil && want.Body == "" {
			m.isVote(t, x, want)
		}
		if x != want.Letter {
			t.Fatalf("the letter %d: %d %d %d %q, want %d %d %d %q", i, x.To, x.From, x.Kind, x.Body, want.To, want.From, want.Kind, want.Body)
		}
	}
}

// isVote: a letter that the auditor wrote, and the model didn't.
func (m *model) isVote(t *testing.T, x bag.Letter, want *letter) {
	t.Helper()
	a, e := attest.Decode(x.Body)
	if e != api.OK || a.Epoch != want.says.Epoch || a.Band != want.says.Band || a.Header != want.says.Header || a.Number != want.says.Number {
		t.Fatal("another vote", a.Epoch, a.Band, a.Number, e)
	}
	if a.Sig.Index != want.says.Sig.Index || !a.Verify(m.auditors[a.Number].Key) {
		t.Fatal("another signature", a.Number, a.Sig.Index, want.says.Sig.Index)
	}
	want.Body = x.Body
}

// answers of the server are right to each client that has its last header.
func (m *model) answers(t *testing.T) {
	t.Helper()
	labels := []string{"", "nobody", "Alice"}
	for name := range maps.Keys(m.histories) {
		labels = append(labels, name)
	}
	for _, name := range labels {
		a, e := m.w.Server().Lookup(name)
		if e != api.OK || !slices.Equal(a.History, m.histories[name]) {
			t.Fatalf("%q: %d entries, %d", name, len(a.History), e)
		}
		var want entry.Entry
		if l := m.histories[name]; len(l) > 0 {
			want = l[len(l)-1]
			if want.Key != ownerKey(t, name, m.owners[name]).Public() && !m.waits(name) {
				t.Fatalf("%q: another key", name)
			}
		}
		for i, n := range m.clients {
			x, ok, e := m.w.Client(i).Check(a)
			if n == len(m.headers) && (e != api.OK || ok != (len(m.histories[name]) > 0) || x != want) {
				t.Fatalf("%q: %d %v %d", name, x.Version, ok, e)
			}
		}
	}
}

func (m *model) waits(name string) bool {
	return slices.ContainsFunc(m.waiting, func(x submitted) bool { return x.label == name })
}

package monitor_test

import (
	"math"
	"slices"
	"strings"
	"testing"

	"plumbob/api"
	"plumbob/cover"
	"plumbob/entry"
	"plumbob/item"
	"plumbob/monitor"
	"plumbob/server"
	"plumbob/world"
	"plumbob/xmss"
)

// P29.1

func TestNew(t *testing.T) {
	long := strings.Repeat("a", api.MaxLabel)
	for _, label := range []string{"a", "0", "alice@example.org", "a.b-c_d@e", "\u03b1\u03c2", "\u0430\u044f.a", long} {
		x := newModel(t, label)
		sees(t, x, history(1), false, api.OK)
		x.own(t, key(1))
		sees(t, x, history(1), true, api.OK)
	}
	for label, want := range map[string]api.Errno{
		"\xff": api.ErrForm, "a\xff": api.ErrForm, long + "\xff": api.ErrForm,
		long + "a": api.ErrLong, long + ".": api.ErrLong, strings.ToUpper(long) + "A": api.ErrLong,
		"": api.ErrRune, "a..b": api.ErrRune, ".a": api.ErrRune, "a b": api.ErrRune, "a@b@c": api.ErrRune, "a\u03b1": api.ErrRune, "A..B": api.ErrRune,
		"Alice": api.ErrForm, "alicE": api.ErrForm, "\u0391": api.ErrForm, "a.\u042f": api.ErrForm, strings.ToUpper(long): api.ErrForm,
	} {
		if m, e := monitor.New(label); m != nil || e != want {
			t.Errorf("%q: %d, want %d", label, e, want)
		}
	}
}

// Nothing is seen at first; a label without entries has none that are another one's.
func TestSeeOfNoEntries(t *testing.T) {
	x := newModel(t, "alice")
	sees(t, x, nil, true, api.OK)
	sees(t, x, nil, true, api.OK)
	sees(t, x, history(1, 2), false, api.OK)
	sees(t, x, nil, false, api.ErrVersion)
}

func TestSee(t *testing.T) {
	x := newModel(t, "alice")
	x.own(t, key(1), key(2))
	for _, y := range []struct {
		l    []int
		all  bool
		want api.Errno
	}{
		{[]int{1}, true, api.OK}, {[]int{1}, true, api.OK}, {[]int{1, 2}, true, api.OK}, {[]int{1, 2, 1, 1}, true, api.OK},
		{[]int{1, 2, 1}, false, api.ErrVersion}, {[]int{1}, false, api.ErrVersion}, {nil, false, api.ErrVersion}, {[]int{3}, false, api.ErrVersion},
		{[]int{1, 2, 1, 2}, false, api.ErrRoot}, {[]int{2, 2, 1, 1}, false, api.ErrRoot}, {[]int{1, 2, 1, 2, 1}, false, api.ErrRoot}, {[]int{3, 2, 1, 1, 1}, false, api.ErrRoot},
		{[]int{1, 2, 1, 1}, true, api.OK}, {[]int{1, 2, 1, 1, 3}, false, api.OK}, {[]int{1, 2, 1, 1, 3, 1}, false, api.OK}, {[]int{1, 2, 1, 1, 1, 1}, false, api.ErrRoot},
	} {
		sees(t, x, history(y.l...), y.all, y.want)
	}
	x.own(t, key(3))
	sees(t, x, history(1, 2, 1, 1, 3, 1), true, api.OK)
}

// A key is the owner's, where all of it is the same.
func TestOwn(t *testing.T) {
	l := history(1)
	k := l[0].Key
	open, root, height := k, k, k
	open.Open, root.Root, height.Height = root.Root, open.Open, height.Height+1
	x := newModel(t, "alice")
	sees(t, x, l, false, api.OK)
	for _, other := range []xmss.Public{open, root, height, {}, {Height: -1}, {Open: k.Open}, {Root: k.Root}, {Open: strings.Repeat("a", 100), Height: 7}} {
		x.own(t, other, other)
		sees(t, x, l, false, api.OK)
	}
	x.own(t, k)
	sees(t, x, l, true, api.OK)
	x.own(t, k)
	sees(t, x, history(1, 2), false, api.OK)
	other := newModel(t, "alice")
	sees(t, other, l, false, api.OK)
}

// Where several errors apply, the one that is named first is the answer.
func TestOrderOfErrors(t *testing.T) {
	x := newModel(t, "alice")
	d := holding(t, "alice", history(1, 2))
	right := d.answer(t, "alice", history(1, 2))
	bob := d.answer(t, "bob", nil)
	bad := right
	bad.Label, bad.History = "bob", history(1, 2)[1:]
	x.own(t, key(1), key(2))
	x.see(t, d.client, right)
	for _, a := range []server.Answer{right, bob, bad, {}} {
		if all, e := x.see(t, nil, a); all || e != api.ErrArg {
			t.Error(a.Label, e)
		}
		var m *monitor.Monitor
		if all, e := m.See(d.client, a); all || e != api.ErrArg {
			t.Error(a.Label, e)
		}
		if all, e := m.See(nil, a); all || e != api.ErrArg {
			t.Error(a.Label, e)
		}
	}
	for _, label := range []string{"bob", "Alice", "alice ", "alic", ""} {
		a := right
		a.Label = label
		if _, e := x.see(t, d.client, a); e != api.ErrNone {
			t.Error(label, e)
		}
	}
	for _, a := range []server.Answer{bob, bad, {}} {
		if _, e := x.see(t, d.client, a); e != api.ErrNone {
			t.Error(a.Label, e)
		}
	}
	one, other := history(1), history(2, 2)
	for _, y := range []struct {
		l    []entry.Entry
		want api.Errno
	}{
		{nil, api.ErrProof}, {one, api.ErrProof}, {other, api.ErrProof}, {history(1, 2, 1), api.ErrProof}, // ahead of ErrVersion, of ErrRoot
		{right.History[1:], api.ErrVersion}, {other[1:], api.ErrVersion}, {[]entry.Entry{other[0], right.History[1]}, api.ErrRoot},
	} {
		a := right
		a.History = y.l
		if _, e := x.see(t, d.client, a); e != y.want {
			t.Error(len(y.l), e, y.want)
		}
	}
	sees(t, x, history(2), false, api.ErrVersion) // ahead of ErrRoot
	sees(t, x, right.History, true, api.OK)
}

// What is handed in is neither changed nor kept; what is told is new.
func TestMemory(t *testing.T) {
	x := newModel(t, "alice")
	x.own(t, key(1))
	l := append(history(1, 2, 3), history(4)...)[:3]
	d := holding(t, "alice", l)
	a := d.answer(t, "alice", l)
	x.see(t, d.client, a)
	x.m.Report()
	if !slices.Equal(l[:4], append(history(1, 2, 3), history(4)...)) {
		t.Error("changed")
	}
	clear(l[:4])
	x.is(t)
	clear(x.m.Known())
	x.is(t)
	known := x.m.Known()
	x.m.Report()
	_ = append(known[:1], history(9)...)
	x.is(t)
	_, _, first, _ := monitor.Read(x.m.Report())
	report := x.m.Report()
	_, _, versions, _ := monitor.Read(report)
	clear(versions)
	if _, _, again, _ := monitor.Read(report); !slices.Equal(again, first) || !slices.Equal(again, []int64{2, 3}) {
		t.Error(again)
	}
	sees(t, x, history(1, 2, 3), false, api.OK)
}

// Monitors go their own ways; a report is of what was seen till then.
func TestMonitorsApart(t *testing.T) {
	x, y := newModel(t, "alice"), newModel(t, "alice")
	x.own(t, key(1))
	sees(t, x, history(1), true, api.OK)
	y.is(t)
	report, known := x.m.Report(), x.m.Known()
	sees(t, x, history(1, 2), false, api.OK)
	sees(t, y, history(2), false, api.OK)
	x.is(t)
	if item.Show(report) != "[\"alice\" 1 []]" || !slices.Equal(known, history(1)) {
		t.Error(item.Show(report), len(known))
	}
}

func TestNil(t *testing.T) {
	var m *monitor.Monitor
	m.Own(key(1))
	if l := m.Known(); len(l) != 0 {
		t.Error(len(l))
	}
	if !item.Same(m.Report(), item.List()) {
		t.Error(item.Show(m.Report()))
	}
	if all, e := m.See(nil, server.Answer{}); all || e != api.ErrArg {
		t.Error(all, e)
	}
}

// P29.2

func TestReport(t *testing.T) {
	x := newModel(t, "\u03b1")
	x.own(t, key(2), key(4))
	sees(t, x, history(1, 2, 3, 4, 5), false, api.OK)
	if !item.Same(x.m.Report(), item.List(item.Text("\u03b1"), item.Num(5), nums(1, 3, 5))) {
		t.Error(item.Show(x.m.Report()))
	}
	b, e := item.Encode(x.m.Report())
	if e != api.OK {
		t.Fatal(e)
	}
	back, e := item.Decode(b)
	if e != api.OK || !item.Same(back, x.m.Report()) {
		t.Error(e)
	}
	if label, count, l, e := monitor.Read(back); e != api.OK || label != "\u03b1" || count != 5 || !slices.Equal(l, []int64{1, 3, 5}) {
		t.Error(label, count, l, e)
	}
}

// More than a list's bytes may tell are told all the same.
func TestReportOfManyEntries(t *testing.T) {
	x := newModel(t, "alice")
	x.own(t, rest(300)...)
	sees(t, x, history(rising(0, 300)...), true, api.OK)
	y := newModel(t, "alice")
	y.own(t, key(0))
	sees(t, y, history(rising(0, 300)...), false, api.OK)
}

func rest(count int) []xmss.Public {
	var l []xmss.Public
	for _, n := range rising(0, count) {
		l = append(l, key(n))
	}
	return l
}

func TestRead(t *testing.T) {
	for _, y := range []struct {
		label string
		count int64
		l     []int64
	}{
		{"alice", 0, nil}, {"alice", 3, []int64{1, 3}}, {"", math.MaxInt64, []int64{3, 1, 1}}, {"A..\xff", 1, []int64{-1, 0, math.MinInt64, math.MaxInt64}}, {strings.Repeat("a", 5000), 1, nil},
	} {
		label, count, l, e := monitor.Read(item.List(item.Text(y.label), item.Num(y.count), nums(y.l...)))
		if e != api.OK || label != y.label || int64(count) != y.count || !slices.Equal(l, y.l) {
			t.Error(label, count, l, e)
		}
	}
}

func nums(l ...int64) item.Item {
	var x []item.Item
	for _, n := range l {
		x = append(x, item.Num(n))
	}
	return item.List(x...)
}

func TestReadOfNoReport(t *testing.T) {
	text, num, list := item.Text("alice"), item.Num(1), nums(1, 2)
	for _, y := range []struct {
		x    item.Item
		want api.Errno
	}{
		{nil, api.ErrType}, {"alice", api.ErrType}, {1, api.ErrType}, {[]item.Item{text, num, list}, api.ErrType},
		{text, api.ErrType}, {num, api.ErrType}, {list, api.ErrType}, {item.List(), api.ErrType}, {item.List(item.List(text, num, list)), api.ErrType},
		{item.List(text, num), api.ErrType}, {item.List(text), api.ErrType}, {item.List(text, num, list, list), api.ErrType}, {item.List(text, num, list, nil), api.ErrType},
		{item.List(num, text, list), api.ErrType}, {item.List(text, list, num), api.ErrType}, {item.List(list, num, text), api.ErrType},
		{item.List(num, num, list), api.ErrType}, {item.List(list, num, list), api.ErrType}, {item.List(nil, num, list), api.ErrType}, {item.List("alice", num, list), api.ErrType},
		{item.List(text, text, list), api.ErrType}, {item.List(text, list, list), api.ErrType}, {item.List(text, nil, list), api.ErrType}, {item.List(text, 1, list), api.ErrType},
		{item.List(text, num, num), api.ErrType}, {item.List(text, num, text), api.ErrType}, {item.List(text, num, nil), api.ErrType}, {item.List(text, num, []int64{1}), api.ErrType},
		{item.List(text, num, item.List(num, text)), api.ErrType}, {item.List(text, num, item.List(list)), api.ErrType}, {item.List(text, num, item.List(num, nil)), api.ErrType},
		{item.List(text, item.Num(-1), list), api.ErrRange}, {item.List(text, item.Num(math.MinInt64), nums()), api.ErrRange},
		{item.List(text, item.Num(-1), num), api.ErrType}, {item.List(text, item.Num(-1), item.List(text)), api.ErrType}, {item.List(num, item.Num(-1), list), api.ErrType}, {item.List(text, item.Num(-1)), api.ErrType},
	} {
		if label, count, l, e := monitor.Read(y.x); e != y.want || label != "" || count != 0 || len(l) != 0 {
			t.Error(item.Show(y.x), label, count, l, e)
		}
	}
}

// P29.3, P7

// An owner who asks a world's server behind each epoch, and a thief with a key of her own.
func TestWatched(t *testing.T) {
	w, e := world.New(2, 2, 0, cover.Rules{Slots: 2, Needed: 2})
	if e != api.OK {
		t.Fatal(e)
	}
	x := newModel(t, "alice")
	for _, n := range []string{"1", "2", "3"} {
		k, _ := xmss.New("owneralice"+n, 0)
		x.own(t, k.Public())
	}
	for i, n := range []int{1, 2, 1, 5, 3, 66} {
		epoch(t, w, n)
		a, _ := w.Server().Lookup("alice")
		if all, e := x.see(t, w.Client(i%2), a); e != api.OK || all != (i < 3) {
			t.Fatal(i, all, e)
		}
	}
	if s := item.Show(x.m.Report()); s != "[\"alice\" 6 [4]]" {
		t.Error(s)
	}
	// A server that forgot all of it, and begins anew with other entries.
	forgetful, _ := world.New(2, 1, 0, cover.Rules{Slots: 2, Needed: 2})
	for _, n := range []int{1, 2, 1, 5, 3, 3} {
		asks(t, x, forgetful, api.ErrVersion)
		epoch(t, forgetful, n)
	}
	asks(t, x, forgetful, api.ErrRoot)
}

// asks a world's server: an error.
func asks(t *testing.T, x *model, w *world.World, want api.Errno) {
	t.Helper()
	a, _ := w.Server().Lookup("alice")
	if _, e := x.see(t, w.Client(0), a); e != want {
		t.Fatal(len(a.History), e, want)
	}
}

// epoch with a next entry of alice's.
func epoch(t *testing.T, w *world.World, n int) {
	t.Helper()
	for _, s := range []world.Step{{Kind: world.Update, Text: "alice", N: n}, {Kind: world.Publish}, {Kind: world.Round}} {
		if e := w.Do(s); e != api.OK {
			t.Fatal(s, e)
		}
	}
}

func TestExample(t *testing.T) {
	x := newModel(t, "alice")
	l := history(1)
	x.own(t, l[0].Key)
	sees(t, x, l, true, api.OK)
}

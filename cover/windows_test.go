package cover_test

import (
	"math"
	"slices"
	"strings"
	"testing"

	"plumbob/api"
	"plumbob/cover"
	"plumbob/header"
)

// P23.1

func TestWindows(t *testing.T) {
	for depth := range 5 {
		x := newStage(t, 7, depth, cover.Rules{Slots: 4, Needed: 3})
		l, e := cover.Windows(x.parent, 7, x.rules)
		if e != api.OK || len(l) != 1<<depth || !slices.EqualFunc(l, x.windows(), slices.Equal) {
			t.Errorf("%d: %v %d, want %v", depth, l, e, x.windows())
		}
	}
}

// The numbers at the edges that may be; how many of the slots are needed doesn't change the windows.
func TestWindowsOfAllNumbers(t *testing.T) {
	x := newStage(t, 1, 1, cover.Rules{})
	for auditors := 1; auditors <= 64; auditors++ {
		for _, slots := range []int{1, auditors/2 + 1, auditors} {
			for _, needed := range []int{1, slots/2 + 1, slots} {
				l, e := cover.Windows(x.parent, auditors, cover.Rules{Slots: slots, Needed: needed})
				if e != api.OK || len(l) != 2 || len(l[0]) != slots || len(l[1]) != slots {
					t.Fatal(auditors, slots, needed, e)
				}
				x.keys, x.rules.Slots = slices.Repeat(x.keys[:1], auditors), slots
				if !slices.EqualFunc(l, x.windows(), slices.Equal) {
					t.Fatal(auditors, slots, needed, l)
				}
			}
		}
	}
}

// The header ahead is the seed: another one has other windows.
func TestWindowsOfAnotherHeader(t *testing.T) {
	x := newStage(t, 40, 3, cover.Rules{Slots: 20, Needed: 1})
	l, _ := cover.Windows(x.parent, 40, x.rules)
	other := x.parent
	other.Epoch++
	m, _ := cover.Windows(other, 40, x.rules)
	for b := range l {
		if slices.Equal(l[b], m[b]) || b > 0 && slices.Equal(l[b], l[b-1]) {
			t.Error(b, l[b])
		}
	}
}

// without a digest: a header with one thing that may not be.
func without(h header.Header) []header.Header {
	var l []header.Header
	add := func(f func(x *header.Header)) {
		x := h
		x.Nodes = slices.Clone(h.Nodes)
		f(&x)
		l = append(l, x)
	}
	add(func(x *header.Header) { x.Epoch = 1 << 32 })
	add(func(x *header.Header) { x.Parent = noughts[1:] })
	add(func(x *header.Header) { x.Parent = noughts + "x" })
	add(func(x *header.Header) { x.Depth = -1 })
	add(func(x *header.Header) { x.Depth = 5 })
	add(func(x *header.Header) { x.Auditors = -1 })
	add(func(x *header.Header) { x.Auditors = 65 })
	add(func(x *header.Header) { x.Nodes = x.Nodes[1:] })
	add(func(x *header.Header) { x.Nodes = nil })
	add(func(x *header.Header) { x.Nodes = append(x.Nodes, "\x00") })
	add(func(x *header.Header) { x.Nodes[0] = "" })
	add(func(x *header.Header) { x.Nodes[0] = "\x03" + noughts })
	return append(l, header.Header{})
}

func noWindows(t *testing.T, parent header.Header, auditors int, r cover.Rules, want api.Errno) {
	t.Helper()
	if l, e := cover.Windows(parent, auditors, r); len(l) != 0 || e != want {
		t.Errorf("%d auditors, %v: %v %d, want %d", auditors, r, l, e, want)
	}
}

func TestWindowsOfAHeaderWithoutADigest(t *testing.T) {
	x := newStage(t, 4, 1, cover.Rules{Slots: 3, Needed: 2})
	for _, h := range without(x.parent) {
		noWindows(t, h, 4, x.rules, api.ErrArg)
		noWindows(t, h, 2, x.rules, api.ErrArg) // ahead of layer 21's
	}
}

func TestWindowsOfWrongRules(t *testing.T) {
	x := newStage(t, 4, 1, cover.Rules{})
	for _, r := range []cover.Rules{{}, {Slots: 3}, {Slots: 3, Needed: 4}, {Slots: 3, Needed: -1}, {Slots: 0, Needed: 1}, {Slots: -1, Needed: -1}, {Slots: -1, Needed: 1}, {Slots: 3, Needed: math.MaxInt}, {Slots: math.MinInt, Needed: math.MinInt}, {Slots: math.MaxInt}, {Slots: 1, Needed: math.MinInt}} {
		for _, auditors := range []int{4, 2, 0, -1, 65} {
			noWindows(t, x.parent, auditors, r, api.ErrArg)
		}
	}
}

func TestWindowsOfWrongAuditors(t *testing.T) {
	x := newStage(t, 4, 1, cover.Rules{})
	for _, r := range []cover.Rules{{Slots: 1, Needed: 1}, {Slots: 3, Needed: 2}, {Slots: 64, Needed: 64}, {Slots: math.MaxInt, Needed: 1}} {
		for _, auditors := range []int{-1, 65, math.MaxInt, math.MinInt} {
			noWindows(t, x.parent, auditors, r, api.ErrArg)
		}
		noWindows(t, x.parent, min(r.Slots, 65)-1, r, api.ErrCount)
		noWindows(t, x.parent, 0, r, api.ErrCount)
	}
}

func TestWindowsAreNewMemory(t *testing.T) {
	x := newStage(t, 9, 2, cover.Rules{Slots: 3, Needed: 2})
	was := x.windows()
	nodes := append(slices.Clone(x.parent.Nodes), "behind")
	x.parent.Nodes = nodes[:4]
	l, _ := cover.Windows(x.parent, 9, x.rules)
	for b := range l {
		_ = append(l[b], 77)
	}
	if !slices.EqualFunc(l, was, slices.Equal) || nodes[4] != "behind" {
		t.Error("shared")
	}
	for b := range l {
		clear(l[b])
	}
	if m, _ := cover.Windows(x.parent, 9, x.rules); !slices.EqualFunc(m, was, slices.Equal) || strings.Join(nodes[:4], "") != strings.Join(x.ownNodes(), "") {
		t.Error("kept")
	}
}

// ownNodes of the header ahead, made anew.
func (x *stage) ownNodes() []string { return nodesOf(x.t, x.tree, x.parent.Depth) }

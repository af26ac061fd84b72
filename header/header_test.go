package header_test

import (
	"math"
	"slices"
	"strings"
	"testing"

	"plumbob/api"
	"plumbob/band"
	"plumbob/header"
	"plumbob/smt"
)

// P19.1

func TestRootOfATreesBands(t *testing.T) {
	x := smt.New()
	for i := range 40 {
		for depth := range 5 {
			nodes, e := band.Nodes(x, depth)
			h := header.Header{Depth: depth, Nodes: nodes}
			if e != api.OK || h.Root() != x.Root() {
				t.Errorf("%d keys, depth %d: %q, %d", i, depth, h.Root(), e)
			}
		}
		x.Put(tagged(99, string(rune(i))), "v")
	}
}

func TestRootByHand(t *testing.T) {
	a, b, c := leafOf("a"), leafOf("b"), innerOf("c")
	for _, x := range []struct {
		l    []string
		want string
	}{
		{[]string{empty}, empty},
		{[]string{c}, c},
		{[]string{empty, a}, a},
		{[]string{a, empty}, a},
		{[]string{empty, empty}, empty},
		{[]string{a, b}, joined(a, b)},
		{[]string{b, a}, joined(b, a)},
		{[]string{empty, c}, joined(empty, c)},
		{[]string{a, b, c, empty}, joined(joined(a, b), joined(c, empty))},
		{[]string{empty, empty, empty, empty, empty, empty, b, empty}, b},
	} {
		depth := map[int]int{1: 0, 2: 1, 4: 2, 8: 3}[len(x.l)]
		h := header.Header{Depth: depth, Nodes: slices.Clone(x.l)}
		if root := h.Root(); root != x.want || !slices.Equal(h.Nodes, x.l) {
			t.Errorf("%q: %q, want %q", x.l, root, x.want)
		}
		h.Epoch, h.Parent, h.Auditors = math.MaxUint64, "x", -1 // it depends on the nodes alone
		if root := h.Root(); root != x.want {
			t.Errorf("%q, with other numbers: %q", x.l, root)
		}
	}
}

func TestRootOfNodesThatMakeNone(t *testing.T) {
	for n := range 40 {
		nodes := slices.Repeat([]string{leafOf("a")}, n)
		for depth := range 5 {
			if n == 1<<depth {
				continue
			}
			if root := (header.Header{Depth: depth, Nodes: nodes}).Root(); root != "" {
				t.Errorf("%d at depth %d: %q", n, depth, root)
			}
		}
		for _, depth := range noDepths {
			if root := (header.Header{Depth: depth, Nodes: nodes}).Root(); root != "" {
				t.Errorf("%d at depth %d: %q", n, depth, root)
			}
		}
	}
}

func TestEncodeAndDecode(t *testing.T) {
	for _, h := range some() {
		was := cloned(h)
		want := bytesOf(h)
		if b, e := h.Encode(); b != want || e != api.OK {
			t.Errorf("%s: %q %d, want %q", shown(h), b, e, want)
		}
		if x, e := header.Decode(want); !alike(x, h) || e != api.OK {
			t.Errorf("%s: %s %d", shown(h), shown(x), e)
		}
		if d := h.Digest(); d != tagged(14, want) {
			t.Errorf("%s: digest %q", shown(h), d)
		}
		if !alike(h, was) {
			t.Errorf("%s is changed", shown(was))
		}
	}
}

func TestEncodeByHand(t *testing.T) {
	leaf, inner := "\x01llllllllllllllll", "\x02iiiiiiiiiiiiiiii"
	h := header.Header{Epoch: 0x01020304, Parent: "pppppppppppppppp", Depth: 2, Auditors: 64, Nodes: []string{leaf, "\x00", inner, leaf}}
	want := "\x01\x02\x03\x04pppppppppppppppp\x02\x40\x00\x11" + leaf + "\x00\x01\x00\x00\x11" + inner + "\x00\x11" + leaf
	if b, e := h.Encode(); b != want || e != api.OK {
		t.Errorf("%q %d", b, e)
	}
	if x, e := header.Decode(want); !alike(x, h) || e != api.OK {
		t.Errorf("%s %d", shown(x), e)
	}
}

// withoutBytes: no bytes, nor a digest; no header is the same, or may come first or next.
func withoutBytes(t *testing.T, h header.Header, want api.Errno) {
	t.Helper()
	if b, e := h.Encode(); b != "" || e != want {
		t.Errorf("%s: %q %d, want %d", shown(h), b, e, want)
	}
	if d := h.Digest(); d != "" {
		t.Errorf("%s: digest %q", shown(h), d)
	}
	if e := h.Genesis(); e != want {
		t.Errorf("%s: Genesis %d, want %d", shown(h), e, want)
	}
	for _, x := range []header.Header{genesis(), {}, h} { // ahead of what is told of both
		if e := x.Next(h); e != want {
			t.Errorf("%s: Next %d, want %d", shown(h), e, want)
		}
		if h.Same(x) || x.Same(h) {
			t.Errorf("%s is the same as %s", shown(h), shown(x))
		}
	}
}

// spoils a header's number, or its Parent.
func spoils(spoil func(f func(h *header.Header))) {
	for _, epoch := range noEpochs {
		spoil(func(h *header.Header) { h.Epoch = epoch })
	}
	for _, parent := range noParents {
		spoil(func(h *header.Header) { h.Parent = parent })
	}
	for _, depth := range noDepths {
		spoil(func(h *header.Header) { h.Depth = depth })
	}
	for _, auditors := range noAuditors {
		spoil(func(h *header.Header) { h.Auditors = auditors })
	}
}

func TestNumbersThatMayNotBe(t *testing.T) {
	spoils(func(f func(h *header.Header)) {
		for depth := range 5 {
			h := headerOf(depth)
			f(&h)
			withoutBytes(t, h, api.ErrRange)
			h.Nodes = h.Nodes[1:] // ahead of the count
			withoutBytes(t, h, api.ErrRange)
			h = headerOf(depth)
			f(&h)
			h.Nodes[0] = "no node" // ahead of the nodes
			withoutBytes(t, h, api.ErrRange)
		}
	})
	withoutBytes(t, header.Header{}, api.ErrRange)
}

func TestNodesOfAnotherCount(t *testing.T) {
	for depth := range 5 {
		for n := range 40 {
			if n == 1<<depth {
				continue
			}
			for _, node := range []string{empty, leafOf("a"), "no node"} { // ahead of the nodes
				h := headerOf(depth)
				h.Nodes = slices.Repeat([]string{node}, n)
				withoutBytes(t, h, api.ErrCount)
			}
		}
	}
	h := headerOf(4)
	h.Nodes = make([]string, 100000)
	withoutBytes(t, h, api.ErrCount)
}

func TestNodesThatAreNone(t *testing.T) {
	for depth := range 5 {
		for i := range 1 << depth {
			for _, node := range noNodes {
				h := headerOf(depth)
				h.Nodes[i] = node
				withoutBytes(t, h, api.ErrForm)
			}
		}
	}
}

// Of 17 bytes 1 and 2 begin a node alone; of one byte 0 is.
func TestNodesByTheirFirstByte(t *testing.T) {
	for b := range 256 {
		begin := string([]byte{byte(b)})
		h := headerOf(0)
		h.Nodes[0] = begin + strings.Repeat("x", 16)
		if b == 1 || b == 2 {
			if _, e := h.Encode(); e != api.OK {
				t.Errorf("%d: %d", b, e)
			}
		} else {
			withoutBytes(t, h, api.ErrForm)
		}
		h.Nodes[0] = begin
		if b == 0 {
			if _, e := h.Encode(); e != api.OK {
				t.Errorf("%d alone: %d", b, e)
			}
		} else {
			withoutBytes(t, h, api.ErrForm)
		}
	}
}

// Each part of it goes into the digest.
func TestDigestsOfOthers(t *testing.T) {
	seen := map[string]header.Header{}
	for _, h := range some() {
		d := h.Digest()
		if x, ok := seen[d]; ok || len(d) != 16 {
			t.Errorf("%s and %s: %q", shown(h), shown(x), d)
		}
		seen[d] = h
	}
}

// P19.2

func TestGenesis(t *testing.T) {
	for _, h := range some() {
		h.Parent = noughts
		want := api.OK
		if h.Epoch != 0 {
			want = api.ErrEpoch
		}
		if e := h.Genesis(); e != want {
			t.Errorf("%s: %d, want %d", shown(h), e, want)
		}
	}
	for _, parent := range []string{parent16, strings.Repeat("0", 16), noughts[1:] + "\x01", "\x01" + noughts[1:], noughts[:8] + "\x80" + noughts[:7]} {
		h := genesis()
		h.Parent = parent
		if e := h.Genesis(); e != api.ErrRoot {
			t.Errorf("%q: %d", parent, e)
		}
		for _, epoch := range []uint64{1, 2, 256, 1<<32 - 1} { // ErrEpoch is ahead of ErrRoot
			h.Epoch = epoch
			if e := h.Genesis(); e != api.ErrEpoch {
				t.Errorf("%d %q: %d", epoch, parent, e)
			}
		}
	}
}

func next(t *testing.T, h, x header.Header, want api.Errno, what string) {
	t.Helper()
	a, b := cloned(h), cloned(x)
	if e := h.Next(x); e != want {
		t.Errorf("%s: of %s and %s %d, want %d", what, shown(h), shown(x), e, want)
	}
	if !alike(h, a) || !alike(x, b) {
		t.Errorf("%s: changed", what)
	}
}

// A header whose Parent is the digest, in a row.
func TestNextInARow(t *testing.T) {
	for depth := range 5 {
		h := headerOf(depth)
		h.Epoch, h.Parent, h.Auditors = 0, noughts, 0
		for i := range 300 {
			x := behind(h)
			x.Auditors = i / 5
			x.Nodes[i%len(x.Nodes)] = leafOf(string(rune(i)))
			next(t, h, x, api.OK, "behind it")
			next(t, x, h, api.ErrEpoch, "ahead of it")
			next(t, x, x, api.ErrEpoch, "itself")
			h = x
		}
	}
}

func TestNextOfEpochs(t *testing.T) {
	for _, epoch := range epochs {
		for _, other := range epochs {
			h := headerOf(2)
			h.Epoch = epoch
			x := behind(h)
			x.Epoch = other
			want := api.ErrEpoch
			if other == epoch+1 {
				want = api.OK
			}
			next(t, h, x, want, "with the digest")
			x.Parent, x.Auditors = parent16, 0 // ErrEpoch is ahead of ErrRoot and ErrCount
			if want == api.OK {
				want = api.ErrRoot
			}
			next(t, h, x, want, "with another digest")
		}
		for _, other := range noEpochs {
			h := headerOf(2)
			h.Epoch = epoch
			x := behind(h)
			x.Epoch = other
			next(t, h, x, api.ErrRange, "no epoch")
		}
	}
}

// The next one behind the greatest number isn't 0.
func TestNextOfEpochsThatMayNotBe(t *testing.T) {
	for _, epoch := range noEpochs {
		h := headerOf(1)
		h.Epoch = epoch
		for _, other := range epochs {
			x := headerOf(1)
			x.Epoch = other
			next(t, h, x, api.ErrEpoch, "behind no epoch")
		}
		for _, other := range []uint64{epoch - 1, epoch, epoch + 1} {
			x := headerOf(1)
			x.Epoch = other
			want := api.ErrRange
			if other < 1<<32 {
				want = api.ErrEpoch
			}
			next(t, h, x, want, "about no epoch")
		}
	}
}

func TestNextOfParents(t *testing.T) {
	h := headerOf(3)
	digest := tagged(14, bytesOf(h))
	for _, parent := range []string{noughts, parent16, h.Parent, h.Root()[1:], "x" + digest[1:], digest[:15] + string([]byte{digest[15] ^ 1}), tagged(13, bytesOf(h)), tagged(14, bytesOf(headerOf(2)))} {
		x := behind(h)
		x.Parent = parent
		next(t, h, x, api.ErrRoot, "another Parent")
		x.Auditors = 0 // ahead of ErrCount
		next(t, h, x, api.ErrRoot, "another Parent, fewer auditors")
	}
	for _, parent := range []string{"", digest[1:], digest + "x", digest + digest} {
		x := behind(h)
		x.Parent = parent
		next(t, h, x, api.ErrRange, "no Parent")
	}
}

// Where the one ahead has no digest nothing follows it.
func TestNextOfHeadersWithoutDigest(t *testing.T) {
	follows := func(h header.Header) {
		t.Helper()
		for _, parent := range []string{noughts, parent16, h.Parent, tagged(14), tagged(14, "")} {
			x := behind(headerOf(2))
			x.Epoch, x.Parent = h.Epoch+1, parent
			want := api.ErrRoot
			if h.Epoch >= 1<<32-1 && h.Epoch < math.MaxUint64 || len(parent) != 16 {
				want = api.ErrRange
			} else if h.Epoch == math.MaxUint64 {
				want = api.ErrEpoch
			}
			next(t, h, x, want, "without digest")
		}
	}
	spoils(func(f func(h *header.Header)) {
		h := headerOf(2)
		f(&h)
		follows(h)
	})
	for _, node := range noNodes {
		h := headerOf(2)
		h.Nodes[3] = node
		follows(h)
	}
	h := headerOf(2)
	h.Nodes = h.Nodes[:3]
	follows(h)
	follows(header.Header{})
}

func TestNextOfCounts(t *testing.T) {
	for depth := range 5 {
		for other := range 5 {
			h := headerOf(depth)
			x := behind(h)
			x.Depth, x.Nodes = other, headerOf(other).Nodes
			want := api.ErrCount
			if depth == other {
				want = api.OK
			}
			next(t, h, x, want, "a depth")
		}
	}
	for a := 0; a <= 64; a++ {
		for b := 0; b <= 64; b++ {
			h := headerOf(1)
			h.Auditors = a
			x := behind(h)
			x.Auditors = b
			want := api.OK
			if b < a {
				want = api.ErrCount
			}
			next(t, h, x, want, "auditors")
		}
	}
}

func TestSame(t *testing.T) {
	l := some()
	for i, h := range l {
		for k, x := range l {
			if h.Same(x) != (i == k) {
				t.Errorf("%s, %s", shown(h), shown(x))
			}
		}
		if !h.Same(cloned(h)) {
			t.Errorf("%s isn't its copy", shown(h))
		}
	}
}

// The room behind a list's length stays as it is.
func TestNothingHandedInIsChanged(t *testing.T) {
	room := append(slices.Repeat([]string{leafOf("a"), empty}, 4), "p", "q", "r")
	was := slices.Clone(room)
	h := headerOf(3)
	h.Nodes = room[:8]
	x := behind(h)
	h.Root()
	h.Encode()
	h.Digest()
	h.Genesis()
	h.Next(x)
	x.Next(h)
	h.Same(x)
	if !slices.Equal(room, was) {
		t.Errorf("%q", room)
	}
}

func TestDecodeTellsNewMemory(t *testing.T) {
	b := bytesOf(headerOf(2))
	x, _ := header.Decode(b)
	y, _ := header.Decode(b)
	x.Nodes[0] = "x"
	if y.Nodes[0] == "x" {
		t.Error("shared")
	}
}

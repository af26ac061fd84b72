package header_test

import (
	"crypto/sha256"
	"encoding/binary"
	"fmt"
	"math"
	"slices"
	"strings"

	"plumbob/header"
)

const (
	empty    = "\x00"
	parent16 = "fedcba987654321\x80"
)

var noughts = strings.Repeat("\x00", 16)

// tagged by the library of Go's own.
func tagged(tag byte, l ...string) string {
	b := []byte{tag}
	for _, s := range l {
		b = binary.BigEndian.AppendUint32(b, uint32(len(s)))
		b = append(b, s...)
	}
	d := sha256.Sum256(b)
	return string(d[:16])
}

func leafOf(key string) string { return "\x01" + tagged(9, key, "v") }

func innerOf(s string) string { return joined(s, "") }

// joined: two nodes, of which not one is empty and the other a leaf's or empty.
func joined(a, b string) string { return "\x02" + tagged(10, a, b) }

// bytesOf a header, by the chapter's words.
func bytesOf(h header.Header) string {
	b := binary.BigEndian.AppendUint32(nil, uint32(h.Epoch))
	b = append(b, h.Parent...)
	b = append(b, byte(h.Depth), byte(h.Auditors))
	for _, x := range h.Nodes {
		b = binary.BigEndian.AppendUint16(b, uint16(len(x)))
		b = append(b, x...)
	}
	return string(b)
}

// headerOf a depth, that may be.
func headerOf(depth int) header.Header {
	h := header.Header{Epoch: 7, Parent: parent16, Depth: depth, Auditors: 5}
	for i := range 1 << depth {
		h.Nodes = append(h.Nodes, []string{leafOf(string(rune('a' + i))), empty, innerOf(string(rune('a' + i)))}[i%3])
	}
	return h
}

func genesis() header.Header {
	return header.Header{Parent: noughts, Depth: 1, Auditors: 2, Nodes: []string{empty, leafOf("a")}}
}

// behind a header: one that may follow.
func behind(h header.Header) header.Header {
	x := cloned(h)
	x.Epoch++
	x.Parent = tagged(14, bytesOf(h))
	return x
}

// What a header may have, and what it may not.
var (
	epochs     = []uint64{0, 1, 2, 3, 127, 128, 255, 256, 257, 65535, 65536, 1 << 24, 1<<31 - 1, 1 << 31, 1<<32 - 2, 1<<32 - 1}
	noEpochs   = []uint64{1 << 32, 1<<32 + 1, 1<<33 - 1, 1 << 40, 1<<63 - 1, 1 << 63, math.MaxUint64 - 1, math.MaxUint64}
	noParents  = []string{"", "x", parent16[1:], parent16 + "x", parent16 + parent16, strings.Repeat("x", 5000), strings.Repeat("ж", 16)}
	noDepths   = []int{math.MinInt, math.MinInt + 1, -1 << 32, -256, -5, -1, 5, 6, 8, 16, 63, 64, 128, 255, 256, 257, 1 << 32, 1<<32 + 1, math.MaxInt}
	noAuditors = []int{math.MinInt, -1 << 32, -256, -64, -1, 65, 66, 128, 255, 256, 257, 1 << 32, 1<<32 + 1, math.MaxInt}
	noNodes    = []string{"", "\x01", "\x02", "\x03", "\x00\x00", "\x00" + parent16, "\x03" + parent16, "\xff" + parent16, parent16, "\x01" + parent16[1:], "\x02" + parent16[1:], "\x01" + parent16 + "x", "\x02" + parent16 + "x", strings.Repeat("\x00", 17), strings.Repeat("\x01", 5000)}
)

// some that may be, no two alike.
func some() []header.Header {
	var l []header.Header
	add := func(f func(h *header.Header)) {
		h := headerOf(2)
		f(&h)
		l = append(l, h)
	}
	for _, epoch := range epochs {
		add(func(h *header.Header) { h.Epoch = epoch })
	}
	for _, parent := range []string{noughts, strings.Repeat("\xff", 16), parent16[1:] + "x"} {
		add(func(h *header.Header) { h.Parent = parent })
	}
	for depth := range 5 {
		for _, auditors := range []int{0, 1, 2, 63, 64} {
			add(func(h *header.Header) { h.Depth, h.Auditors, h.Nodes = depth, auditors, headerOf(depth).Nodes })
		}
		for _, node := range []string{empty, leafOf("z"), innerOf("z"), "\x01" + noughts, "\x02" + noughts} {
			add(func(h *header.Header) { h.Depth, h.Nodes = depth, slices.Repeat([]string{node}, 1<<depth) })
		}
	}
	for i := range 4 {
		add(func(h *header.Header) { h.Nodes[i] = leafOf("other") })
	}
	add(func(h *header.Header) { slices.Reverse(h.Nodes[:3]) })
	return l
}

func cloned(h header.Header) header.Header {
	h.Nodes = slices.Clone(h.Nodes)
	return h
}

func alike(a, b header.Header) bool {
	return a.Epoch == b.Epoch && a.Parent == b.Parent && a.Depth == b.Depth && a.Auditors == b.Auditors && slices.Equal(a.Nodes, b.Nodes)
}

func shown(h header.Header) string {
	return fmt.Sprintf("{%d %.20q %d %d, %d nodes %.100q}", h.Epoch, h.Parent, h.Depth, h.Auditors, len(h.Nodes), h.Nodes)
}

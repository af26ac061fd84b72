package merkle_test

import (
	"crypto/sha256"
	"encoding/binary"
	"math"
	"slices"
	"strconv"
	"strings"
	"testing"

	"plumbob/api"
	"plumbob/merkle"
)

// nodeOf two others, by the library of Go's own.
func nodeOf(a, b string) string {
	x := []byte{5}
	for _, s := range []string{a, b} {
		x = binary.BigEndian.AppendUint32(x, uint32(len(s)))
		x = append(x, s...)
	}
	d := sha256.Sum256(x)
	return string(d[:16])
}

// rootOf leaves by the chapter's words: of their halves.
func rootOf(l []string) string {
	if len(l) == 1 {
		return l[0]
	}
	h := len(l) / 2
	return nodeOf(rootOf(l[:h]), rootOf(l[h:]))
}

// pathOf a leaf: behind the path in its own half the root of the other one.
func pathOf(l []string, i int) []string {
	if len(l) == 1 {
		return nil
	}
	h := len(l) / 2
	if i < h {
		return append(pathOf(l[:h], i), rootOf(l[h:]))
	}
	return append(pathOf(l[h:], i-h), rootOf(l[:h]))
}

func someLeaves(n int) []string {
	l := make([]string, n)
	for i := range l {
		l[i] = "leaf " + strconv.Itoa(i)
	}
	return l
}

var sizes = []int{1, 2, 4, 8, 16, 32, 64}

var texts = []string{"", "a", "\x00", "\xff\xfe", "ж", strings.Repeat("x", 16), strings.Repeat("long", 300)}

// P7.1

func TestNode(t *testing.T) {
	for _, a := range texts {
		for _, b := range texts {
			if merkle.Node(a, b) != nodeOf(a, b) {
				t.Errorf("%.10q, %.10q", a, b)
			}
		}
	}
	if merkle.Node("a", "b") == merkle.Node("b", "a") || merkle.Node("ab", "") == merkle.Node("a", "b") {
		t.Error("nodes above others are the same")
	}
}

func TestRoot(t *testing.T) {
	for _, n := range sizes {
		l := someLeaves(n)
		if r, e := merkle.Root(l); e != api.OK || r != rootOf(l) {
			t.Error(n, e)
		}
		same := slices.Repeat([]string{""}, n)
		if r, e := merkle.Root(same); e != api.OK || r != rootOf(same) {
			t.Error(n, e)
		}
	}
	for _, s := range texts {
		if r, e := merkle.Root([]string{s}); e != api.OK || r != s {
			t.Errorf("%.10q: the root above one leaf isn't it", s)
		}
	}
	if r, e := merkle.Root(texts[:4]); e != api.OK || r != rootOf(texts[:4]) {
		t.Error(e)
	}
}

func TestPath(t *testing.T) {
	for _, n := range sizes {
		l := someLeaves(n)
		for i := range l {
			if p, e := merkle.Path(l, i); e != api.OK || !slices.Equal(p, pathOf(l, i)) {
				t.Error(n, i, e)
			}
		}
	}
}

func TestCountsThatMayNotBe(t *testing.T) {
	counts := []int{127, 128, 129, 256, 512, 1024}
	for n := range 100 {
		if !slices.Contains(sizes, n) {
			counts = append(counts, n)
		}
	}
	for _, n := range counts {
		l := someLeaves(n)
		if r, e := merkle.Root(l); e != api.ErrCount || r != "" {
			t.Error(n, r, e)
		}
		for _, i := range []int{0, n - 1, n, -1, math.MaxInt, math.MinInt} { // ErrCount is ahead of ErrRange
			if p, e := merkle.Path(l, i); e != api.ErrCount || len(p) != 0 {
				t.Error(n, i, p, e)
			}
		}
	}
	if r, e := merkle.Root(nil); e != api.ErrCount || r != "" {
		t.Error(r, e)
	}
	if p, e := merkle.Path(nil, 0); e != api.ErrCount || len(p) != 0 {
		t.Error(p, e)
	}
}

func TestPathOfNoLeaf(t *testing.T) {
	for _, n := range sizes {
		for _, i := range []int{n, n + 1, 2 * n, -1, -n, math.MaxInt, math.MinInt, math.MinInt + 1} {
			if p, e := merkle.Path(someLeaves(n), i); e != api.ErrRange || len(p) != 0 {
				t.Error(n, i, p, e)
			}
		}
	}
}

func TestNothingHandedInIsChangedOrShared(t *testing.T) {
	for _, n := range sizes {
		room := someLeaves(n + 3)
		was := slices.Clone(room)
		merkle.Root(room[:n])
		p, _ := merkle.Path(room[:n], n-1)
		q, _ := merkle.Path(room[:n], n-1)
		merkle.Climb("leaf", 1, room[:n])
		for k := range p {
			p[k] = "x"
		}
		_ = append(p, "x")
		if !slices.Equal(room, was) || !slices.Equal(q, pathOf(was[:n], n-1)) {
			t.Error(n)
		}
	}
}

// P7.2

func TestClimb(t *testing.T) {
	path := []string{"p", "q", "r"}
	want := []string{
		nodeOf(nodeOf(nodeOf("a", "p"), "q"), "r"),
		nodeOf(nodeOf(nodeOf("p", "a"), "q"), "r"),
		nodeOf(nodeOf("q", nodeOf("a", "p")), "r"),
		nodeOf(nodeOf("q", nodeOf("p", "a")), "r"),
		nodeOf("r", nodeOf(nodeOf("a", "p"), "q")),
		nodeOf("r", nodeOf(nodeOf("p", "a"), "q")),
		nodeOf("r", nodeOf("q", nodeOf("a", "p"))),
		nodeOf("r", nodeOf("q", nodeOf("p", "a"))),
	}
	for i, w := range want {
		if merkle.Climb("a", i, path) != w || merkle.Climb("a", i+8, path) != w || merkle.Climb("a", i-8, path) != w {
			t.Error(i)
		}
	}
}

func TestClimbWithoutAPath(t *testing.T) {
	for _, s := range texts {
		for _, i := range []int{0, 1, -1, 7, math.MaxInt, math.MinInt} {
			if merkle.Climb(s, i, nil) != s || merkle.Climb(s, i, []string{}) != s {
				t.Errorf("%.10q, %d", s, i)
			}
		}
	}
}

// climbed with the bits of a number as they stand, in a text of noughts and ones.
func climbed(leaf string, i int, path []string) string {
	bits := strconv.FormatUint(uint64(i), 2)
	for _, beside := range path {
		last := byte('0')
		if bits != "" {
			last, bits = bits[len(bits)-1], bits[:len(bits)-1]
		}
		if last == '1' {
			leaf = nodeOf(beside, leaf)
		} else {
			leaf = nodeOf(leaf, beside)
		}
	}
	return leaf
}

func TestClimbOfAnyNumber(t *testing.T) {
	numbers := []int{0, 1, 2, 3, 63, 64, 0x1234567890ABCDEF, 1 << 31, 1 << 32, 1<<32 + 1, 1 << 62, math.MaxInt, math.MinInt, -1, -2, -77}
	for _, i := range numbers {
		for n := range 65 {
			if p := someLeaves(n); merkle.Climb("a", i, p) != climbed("a", i, p) {
				t.Error(i, n)
			}
		}
	}
	for _, i := range numbers[:12] { // no number has bits behind its own
		if p := someLeaves(200); merkle.Climb("a", i, p) != climbed("a", i, p) {
			t.Error(i)
		}
	}
	merkle.Climb("a", -1, someLeaves(5000)) // ends
}

func TestClimbByThePathIsTheRoot(t *testing.T) {
	for _, n := range sizes {
		l := someLeaves(n)
		r, _ := merkle.Root(l)
		for i, s := range l {
			p, _ := merkle.Path(l, i)
			if merkle.Climb(s, i, p) != r {
				t.Error(n, i)
			}
			if merkle.Climb(s+"x", i, p) == r || n > 1 && merkle.Climb(s, i^1, p) == r || n > 1 && merkle.Climb(s, i, p[1:]) == r {
				t.Error(n, i, "another climb is the root")
			}
		}
	}
}

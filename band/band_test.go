package band_test

import (
	"crypto/sha256"
	"encoding/binary"
	"maps"
	"math"
	"math/rand"
	"slices"
	"strings"
	"testing"

	"plumbob/api"
	"plumbob/band"
	"plumbob/smt"
)

// digest of a tag and texts, by the library of Go's own.
func digest(tag byte, l ...string) string {
	x := []byte{tag}
	for _, s := range l {
		x = binary.BigEndian.AppendUint32(x, uint32(len(s)))
		x = append(x, s...)
	}
	d := sha256.Sum256(x)
	return string(d[:16])
}

func leafOf(key, value string) string { return "\x01" + digest(9, key, value) }

func nodeOf(a, b string) string { return "\x02" + digest(10, a, b) }

// written: a key's bits as noughts and ones.
func written(s string) string {
	b := make([]byte, 8*len(s))
	for i := range b {
		b[i] = '0' + s[i/8]>>(7-i%8)&1
	}
	return string(b)
}

// keyOf 128 noughts and ones, of which the beginning is told.
func keyOf(beginning string) string {
	w := beginning + strings.Repeat("0", 128-len(beginning))
	b := make([]byte, 16)
	for i := range 128 {
		b[i/8] = 2*b[i/8] + w[i] - '0'
	}
	return string(b)
}

// beginnings: of each band at a depth, in order, its keys' first bits.
func beginnings(depth int) []string {
	l := []string{""}
	for range depth {
		var next []string
		for _, w := range l {
			next = append(next, w+"0", w+"1")
		}
		l = next
	}
	return l
}

// mirrored: keys with their values, by their bits.
type mirrored map[string]string

func (m mirrored) tree() *smt.Tree {
	t := smt.New()
	for k, v := range m {
		t.Put(k, v)
	}
	return t
}

// below: the keys that begin so, rising.
func (m mirrored) below(beginning string) []string {
	var keys []string
	for _, k := range slices.Sorted(maps.Keys(m)) {
		if strings.HasPrefix(written(k), beginning) {
			keys = append(keys, k)
		}
	}
	return keys
}

// above the keys whose bits begin so: the node, by the words of layer 13.
func (m mirrored) above(beginning string) string {
	keys := m.below(beginning)
	switch len(keys) {
	case 0:
		return "\x00"
	case 1:
		return leafOf(keys[0], m[keys[0]])
	}
	a, b := m.above(beginning+"0"), m.above(beginning+"1")
	switch {
	case a == "\x00" && b[0] == 1:
		return b
	case b == "\x00" && a[0] == 1:
		return a
	}
	return nodeOf(a, b)
}

// is: does a tree have these values, and no others?
func is(t *testing.T, x *smt.Tree, m mirrored) {
	t.Helper()
	if !slices.Equal(x.Keys(), m.below("")) || x.Root() != m.above("") {
		t.Errorf("the tree is changed: %q, was %q", x.Keys(), m)
	}
}

// someValues of keys: by chance, in few bands, and near together.
func someValues(r *rand.Rand, n int) mirrored {
	m := mirrored{}
	base := make([]byte, 16)
	r.Read(base)
	for range n {
		k := slices.Clone(base)
		switch r.Intn(3) {
		case 0:
			r.Read(k)
		case 1:
			k[0] = byte(r.Intn(256))
		case 2:
			k[r.Intn(16)] ^= 128 >> r.Intn(8)
		}
		m[string(k)] = strings.Repeat("v", r.Intn(3))
	}
	return m
}

func someTrees() []mirrored {
	r := rand.New(rand.NewSource(15))
	l := []mirrored{
		{},
		{keyOf(""): "v"},
		{strings.Repeat("\xff", 16): ""},
		{keyOf("0111"): "v", keyOf("1000"): "w"},
		{keyOf("0000"): "v", keyOf("00001"): "w"}, // part behind the deepest bands
	}
	full := mirrored{}
	for i, w := range beginnings(4) {
		full[keyOf(w)] = strings.Repeat("v", i)
	}
	l = append(l, full)
	for n := range 24 {
		l = append(l, someValues(r, n))
	}
	return l
}

var (
	depths    = []int{0, 1, 2, 3, 4}
	notDepths = []int{math.MinInt, math.MinInt + 1, -1 << 32, -1<<32 + 1, -256, -64, -5, -4, -3, -2, -1, 5, 6, 7, 8, 15, 16, 17, 62, 63, 64, 65, 128, 256, 260, 1 << 31, 1 << 32, 1<<32 + 1, 1<<62 + 4, math.MaxInt - 1, math.MaxInt}
	notKeys   = []string{"", "a", "\x80", strings.Repeat("\xff", 15), strings.Repeat("\xff", 17), strings.Repeat("\x00", 15), strings.Repeat("\x00", 32), strings.Repeat("x", 5000)}
)

// P15.1

func TestCount(t *testing.T) {
	for depth, want := range []int{1, 2, 4, 8, 16} {
		if n := band.Count(depth); n != want {
			t.Errorf("%d: %d", depth, n)
		}
	}
	for _, depth := range notDepths {
		if n := band.Count(depth); n != 0 {
			t.Errorf("%d: %d", depth, n)
		}
	}
}

func TestNodes(t *testing.T) {
	for _, m := range someTrees() {
		x := m.tree()
		for _, depth := range depths {
			l, e := band.Nodes(x, depth)
			if e != api.OK || len(l) != 1<<depth {
				t.Fatalf("%d: %q, %d", depth, l, e)
			}
			for i, w := range beginnings(depth) {
				if l[i] != m.above(w) {
					t.Errorf("%d, band %d of %q: %q", depth, i, m, l[i])
				}
			}
		}
		is(t, x, m)
	}
}

// Of bands that differ by their lowest, and their highest bit.
func TestNodesByHand(t *testing.T) {
	a, b, c, d := keyOf("00"), keyOf("01"), keyOf("10"), keyOf("11")
	x := mirrored{a: "1", b: "2", c: "3", d: "4"}.tree()
	l, e := band.Nodes(x, 2)
	if e != api.OK || !slices.Equal(l, []string{leafOf(a, "1"), leafOf(b, "2"), leafOf(c, "3"), leafOf(d, "4")}) {
		t.Errorf("%q, %d", l, e)
	}
	l, e = band.Nodes(x, 1)
	if e != api.OK || !slices.Equal(l, []string{nodeOf(leafOf(a, "1"), leafOf(b, "2")), nodeOf(leafOf(c, "3"), leafOf(d, "4"))}) {
		t.Errorf("%q, %d", l, e)
	}
}

// Depth 0: one band, whose node is the root.
func TestNodesAtNoDepth(t *testing.T) {
	for _, m := range someTrees() {
		if l, e := band.Nodes(m.tree(), 0); e != api.OK || !slices.Equal(l, []string{m.above("")}) {
			t.Errorf("%q: %q, %d", m, l, e)
		}
	}
}

// A nil tree's node is Empty, as layer 13 has it.
func TestNodesOfNothing(t *testing.T) {
	for _, x := range []*smt.Tree{nil, smt.New()} {
		for _, depth := range depths {
			if l, e := band.Nodes(x, depth); e != api.OK || !slices.Equal(l, slices.Repeat([]string{"\x00"}, 1<<depth)) {
				t.Errorf("%d: %q, %d", depth, l, e)
			}
		}
	}
}

func TestNodesAtOtherDepths(t *testing.T) {
	for _, x := range []*smt.Tree{nil, smt.New(), someValues(rand.New(rand.NewSource(1)), 20).tree()} {
		for _, depth := range notDepths {
			if l, e := band.Nodes(x, depth); e != api.ErrArg || len(l) != 0 {
				t.Errorf("%d: %q, %d", depth, l, e)
			}
		}
	}
}

func TestNodesAreNewMemory(t *testing.T) {
	x := someTrees()[5].tree()
	l, _ := band.Nodes(x, 2)
	k, _ := band.Nodes(x, 2)
	l[0], l[3] = "x", "y"
	if k[0] == "x" || k[3] == "y" || x.Root() != someTrees()[5].above("") {
		t.Error("shared")
	}
}

func TestRootOfATreesNodes(t *testing.T) {
	for _, m := range someTrees() {
		x := m.tree()
		for _, depth := range depths {
			l, _ := band.Nodes(x, depth)
			if root, e := band.Root(l, depth); e != api.OK || root != m.above("") || root != x.Root() {
				t.Errorf("%d, of %q: %q, %d", depth, m, root, e)
			}
		}
	}
}

func TestRootByHand(t *testing.T) {
	a, b, c, d := leafOf("a", ""), leafOf("b", ""), nodeOf("c", ""), nodeOf("d", "")
	no := "\x00"
	for _, x := range []struct {
		l    []string
		want string
	}{
		{[]string{a}, a},
		{[]string{no}, no},
		{[]string{""}, ""}, // one is left as it is
		{[]string{"no node"}, "no node"},
		{[]string{a, b}, nodeOf(a, b)},
		{[]string{b, a}, nodeOf(b, a)},
		{[]string{no, a}, a},
		{[]string{a, no}, a},
		{[]string{no, c}, nodeOf(no, c)},
		{[]string{c, no}, nodeOf(c, no)},
		{[]string{no, no}, no},
		{[]string{"x", "y"}, nodeOf("x", "y")},
		{[]string{a, b, c, d}, nodeOf(nodeOf(a, b), nodeOf(c, d))},
		{[]string{no, a, no, no}, a},
		{[]string{no, no, b, no}, b},
		{[]string{no, a, b, no}, nodeOf(a, b)},
		{[]string{no, no, no, c}, nodeOf(no, nodeOf(no, c))},
		{[]string{a, b, no, no}, nodeOf(nodeOf(a, b), no)},
		{[]string{a, a, a, a}, nodeOf(nodeOf(a, a), nodeOf(a, a))},
		{[]string{no, no, no, no, no, no, a, no}, a},
		{[]string{a, no, no, no, no, no, c, d}, nodeOf(a, nodeOf(no, nodeOf(c, d)))},
	} {
		depth := map[int]int{1: 0, 2: 1, 4: 2, 8: 3}[len(x.l)]
		l := slices.Clone(x.l)
		if root, e := band.Root(l, depth); e != api.OK || root != x.want {
			t.Errorf("%q: %q, %d, want %q", x.l, root, e, x.want)
		}
		if !slices.Equal(l, x.l) {
			t.Errorf("%q is changed: %q", x.l, l)
		}
	}
}

func TestRootOfSixteen(t *testing.T) {
	var l []string
	for i := range 16 {
		l = append(l, nodeOf(string('a'+rune(i)), ""))
	}
	var up func(l []string) string
	up = func(l []string) string {
		if len(l) == 1 {
			return l[0]
		}
		return nodeOf(up(l[:len(l)/2]), up(l[len(l)/2:]))
	}
	if root, e := band.Root(l, 4); e != api.OK || root != up(l) {
		t.Errorf("%q, %d", root, e)
	}
}

func TestRootOfOtherCounts(t *testing.T) {
	for n := range 70 {
		l := slices.Repeat([]string{leafOf("a", "")}, n)
		for _, depth := range depths {
			root, e := band.Root(l, depth)
			if n == 1<<depth && e != api.OK || n != 1<<depth && (e != api.ErrCount || root != "") {
				t.Errorf("%d at depth %d: %q, %d", n, depth, root, e)
			}
		}
		for _, depth := range notDepths { // ahead of the count
			if root, e := band.Root(l, depth); e != api.ErrArg || root != "" {
				t.Errorf("%d at depth %d: %q, %d", n, depth, root, e)
			}
		}
	}
	if root, e := band.Root(make([]string, 100000), 4); e != api.ErrCount || root != "" {
		t.Errorf("%q, %d", root, e)
	}
}

// What is handed in stays as it is, the room behind its length included.
func TestRootKeepsItsList(t *testing.T) {
	room := []string{leafOf("a", ""), "\x00", leafOf("b", ""), nodeOf("c", ""), "p", "q", "r", "s"}
	was := slices.Clone(room)
	for depth, n := range []int{1, 2, 4} {
		band.Root(room[:n], depth)
	}
	if !slices.Equal(room, was) {
		t.Errorf("%q", room)
	}
}

// P15.2

func TestOf(t *testing.T) {
	for _, depth := range depths {
		for i, w := range beginnings(depth) {
			for _, rest := range []string{"0", "1", strings.Repeat("0", 128-depth), strings.Repeat("1", 128-depth), "01", "10"} {
				if n, e := band.Of(keyOf(w+rest), depth); e != api.OK || n != i {
					t.Errorf("%s%s at depth %d: %d, %d", w, rest, depth, n, e)
				}
			}
		}
	}
	r := rand.New(rand.NewSource(2))
	for range 500 {
		k := make([]byte, 16)
		r.Read(k)
		for _, depth := range depths {
			if n, e := band.Of(string(k), depth); e != api.OK || n != int(k[0])>>(8-depth) {
				t.Errorf("%q at depth %d: %d, %d", k, depth, n, e)
			}
		}
	}
}

func TestOfNoKeyOrDepth(t *testing.T) {
	for _, k := range notKeys {
		for _, depth := range depths {
			if n, e := band.Of(k, depth); e != api.ErrRange || n != 0 {
				t.Errorf("%.20q at depth %d: %d, %d", k, depth, n, e)
			}
		}
	}
	for _, k := range append(notKeys, keyOf("1111"), keyOf("")) { // ahead of the key
		for _, depth := range notDepths {
			if n, e := band.Of(k, depth); e != api.ErrArg || n != 0 {
				t.Errorf("%.20q at depth %d: %d, %d", k, depth, n, e)
			}
		}
	}
}

func TestKeys(t *testing.T) {
	for _, m := range someTrees() {
		x := m.tree()
		for _, depth := range depths {
			for i, w := range beginnings(depth) {
				if l, e := band.Keys(x, i, depth); e != api.OK || !slices.Equal(l, m.below(w)) {
					t.Errorf("band %d at depth %d of %q: %q, %d", i, depth, m, l, e)
				}
			}
		}
		is(t, x, m)
	}
}

func TestKeysOfNothing(t *testing.T) {
	for _, x := range []*smt.Tree{nil, smt.New()} {
		for _, depth := range depths {
			for i := range 1 << depth {
				if l, e := band.Keys(x, i, depth); e != api.OK || len(l) != 0 {
					t.Errorf("band %d at depth %d: %q, %d", i, depth, l, e)
				}
			}
		}
	}
}

func TestKeysOfNoBandOrDepth(t *testing.T) {
	full := someTrees()[5].tree()
	for _, x := range []*smt.Tree{nil, smt.New(), full} {
		for _, depth := range depths {
			n := 1 << depth
			for _, i := range []int{math.MinInt, -1 << 32, -n, -1, n, n + 1, 2 * n, 16, 256, 1 << 32, math.MaxInt} {
				if l, e := band.Keys(x, i, depth); e != api.ErrRange || len(l) != 0 {
					t.Errorf("band %d at depth %d: %q, %d", i, depth, l, e)
				}
			}
		}
		for _, depth := range notDepths { // ahead of the band
			for _, i := range []int{math.MinInt, -1, 0, 1, 31, math.MaxInt} {
				if l, e := band.Keys(x, i, depth); e != api.ErrArg || len(l) != 0 {
					t.Errorf("band %d at depth %d: %q, %d", i, depth, l, e)
				}
			}
		}
	}
}

func TestKeysAreNewMemory(t *testing.T) {
	m := someTrees()[5]
	x := m.tree()
	l, _ := band.Keys(x, 1, 1)
	k, _ := band.Keys(x, 1, 1)
	l[0] = "x"
	if k[0] == "x" {
		t.Error("shared")
	}
	is(t, x, m)
}

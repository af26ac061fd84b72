package smt_test

import (
	"crypto/sha256"
	"encoding/binary"
	"encoding/hex"
	"fmt"
	"maps"
	"math"
	"math/rand"
	"slices"
	"strings"
	"testing"

	"plumbob/api"
	"plumbob/smt"
)

// digest of a tag and texts, by the library of Go's own.
func digest(tag byte, l ...string) string {
	x := []byte{tag}
	for _, s := range l {
		x = binary.BigEndian.AppendUint32(x, uint32(len(s)))
		x = append(x, s...)
	}
	d := sha256.Sum256(x)
	return string(d[:16])
}

func leafOf(key, value string) string { return "\x01" + digest(9, key, value) }

func nodeOf(a, b string) string { return "\x02" + digest(10, a, b) }

// written: a text's first 128 bits as noughts and ones, noughts where it has none.
func written(s string) string {
	b := make([]byte, 128)
	for i := range b {
		b[i] = '0'
		if i/8 < len(s) && s[i/8]&(128>>(i%8)) != 0 {
			b[i] = '1'
		}
	}
	return string(b)
}

// keyOf 128 noughts and ones, of which the beginning is told.
func keyOf(beginning string) string {
	w := beginning + strings.Repeat("0", 128-len(beginning))
	b := make([]byte, 16)
	for i := range 128 {
		b[i/8] = 2*b[i/8] + w[i] - '0'
	}
	return string(b)
}

// above the keys whose bits begin so: the node, by the chapter's words.
func above(values map[string]string, beginning string) string {
	var keys []string
	for k := range values {
		if strings.HasPrefix(written(k), beginning) {
			keys = append(keys, k)
		}
	}
	return aboveKeys(values, keys, len(beginning))
}

func aboveKeys(values map[string]string, keys []string, depth int) string {
	switch len(keys) {
	case 0:
		return "\x00"
	case 1:
		return leafOf(keys[0], values[keys[0]])
	}
	var below [2][]string
	for _, k := range keys {
		next := written(k)[depth] - '0'
		below[next] = append(below[next], k)
	}
	return joined(aboveKeys(values, below[0], depth+1), aboveKeys(values, below[1], depth+1))
}

func joined(a, b string) string {
	switch {
	case a == "\x00" && b == "\x00":
		return "\x00"
	case a == "\x00" && b[0] == 1:
		return b
	case b == "\x00" && a[0] == 1:
		return a
	}
	return nodeOf(a, b)
}

func treeOf(t *testing.T, values map[string]string) *smt.Tree {
	t.Helper()
	x := smt.New()
	for k, v := range values {
		if e := x.Put(k, v); e != api.OK {
			t.Fatalf("%q: %d", k, e)
		}
	}
	return x
}

// is: does a tree have these values, and no others?
func is(t *testing.T, x *smt.Tree, values map[string]string) {
	t.Helper()
	if keys := slices.Sorted(maps.Keys(values)); x.Len() != len(values) || !slices.Equal(x.Keys(), keys) {
		t.Errorf("%d keys: %q, want %q", x.Len(), x.Keys(), keys)
	}
	for k, v := range values {
		if got, ok := x.Get(k); !ok || got != v {
			t.Errorf("%q: %q, %t, want %q", k, got, ok, v)
		}
	}
	if x.Root() != above(values, "") {
		t.Errorf("the root of %d keys is another one", len(values))
	}
}

var texts = []string{"", "a", "\x00", "\x01", "\xff\xfe", "ж", strings.Repeat("x", 16), strings.Repeat("long", 3000)}

var (
	low   = keyOf("")
	high  = strings.Repeat("\xff", 16)
	last  = strings.Repeat("\x00", 15) + "\x01"
	wrong = []string{"", "a", "\x00", high[:1], high[:8], high[:15], high + "\xff", low + "\x00", high + high, strings.Repeat("x", 5000)}
)

// someValues of keys: by chance, near together, and such as part only late.
func someValues(r *rand.Rand, n int) map[string]string {
	values := map[string]string{}
	base := make([]byte, 16)
	r.Read(base)
	for range n {
		k := slices.Clone(base)
		switch r.Intn(3) {
		case 0:
			r.Read(k)
		case 1:
			k[0] = byte(r.Intn(256))
		case 2:
			k[15] = byte(r.Intn(256))
		}
		values[string(k)] = texts[r.Intn(len(texts)-1)]
	}
	return values
}

// P13.1

func TestLeaf(t *testing.T) {
	for _, k := range append(texts, low, high) {
		for _, v := range texts {
			if smt.Leaf(k, v) != leafOf(k, v) {
				t.Errorf("%.20q, %.20q", k, v)
			}
		}
	}
	if smt.Leaf("a", "b") == smt.Leaf("b", "a") || smt.Leaf("ab", "") == smt.Leaf("a", "b") {
		t.Error("two leaves' nodes are the same")
	}
}

func TestEmpty(t *testing.T) {
	if smt.Empty != "\x00" {
		t.Errorf("%q", smt.Empty)
	}
}

func TestJoin(t *testing.T) {
	leaf, other := leafOf("k", "v"), nodeOf("a", "b")
	if smt.Join("\x00", "\x00") != "\x00" {
		t.Error("two empty ones")
	}
	for _, l := range []string{leaf, leafOf("", ""), leafOf(high, "x")} {
		if smt.Join("\x00", l) != l || smt.Join(l, "\x00") != l {
			t.Errorf("an empty one and %q", l)
		}
	}
	for _, x := range [][2]string{{"\x00", other}, {other, "\x00"}, {leaf, other}, {other, leaf}, {leaf, leafOf("k", "w")}, {leafOf("k", "w"), leaf}, {leaf, leaf}, {other, other}, {other, nodeOf("b", "a")}} {
		if n := smt.Join(x[0], x[1]); n != nodeOf(x[0], x[1]) {
			t.Errorf("%q: %q", x, n)
		}
	}
	if smt.Join(leaf, other) == smt.Join(other, leaf) {
		t.Error("the order doesn't matter")
	}
}

// Texts that are no node are joined as two that are neither empty nor a leaf's.
func TestJoinOfNoNodes(t *testing.T) {
	leaf := leafOf("k", "v")
	for _, a := range []string{"", "a", "\x01", "\x02", "\x00\x00", "\x00" + leaf[1:], "\x03" + leaf[1:], leaf[:16], leaf + "x", strings.Repeat("\x01", 18), leaf[1:]} {
		for _, b := range []string{"\x00", leaf, a, ""} {
			if smt.Join(a, b) != nodeOf(a, b) || smt.Join(b, a) != nodeOf(b, a) {
				t.Errorf("%q, %q", a, b)
			}
		}
	}
}

func TestNew(t *testing.T) {
	x, y := smt.New(), smt.New()
	if x == nil || y == nil {
		t.Fatal("none")
	}
	is(t, x, nil)
	y.Put(low, "a")
	is(t, x, nil)
	if v, ok := x.Get(low); v != "" || ok {
		t.Error(v, ok)
	}
}

func TestPutAndGet(t *testing.T) {
	x, values := smt.New(), map[string]string{}
	for _, k := range []string{high, low, last, keyOf("1"), keyOf("01"), low, high} {
		for _, v := range texts {
			was, had := values[k]
			if got, ok := x.Get(k); got != was || ok != had {
				t.Errorf("%q: %.20q, %t", k, got, ok)
			}
			if e := x.Put(k, v); e != api.OK {
				t.Errorf("%q: %d", k, e)
			}
			values[k] = v
			is(t, x, values)
		}
	}
	for _, k := range append(wrong, keyOf("001"), keyOf("11"), keyOf("0001")) {
		if v, ok := x.Get(k); v != "" || ok {
			t.Errorf("%.20q: %.20q, %t", k, v, ok)
		}
	}
}

// A key that has the empty text as its value is there.
func TestTheEmptyValue(t *testing.T) {
	x := smt.New()
	if v, ok := x.Get(low); v != "" || ok {
		t.Error("not there yet")
	}
	x.Put(low, "")
	if v, ok := x.Get(low); v != "" || !ok {
		t.Error("not there")
	}
	is(t, x, map[string]string{low: ""})
}

func TestPutOfNoKey(t *testing.T) {
	values := map[string]string{low: "a", high: "b"}
	for _, x := range []*smt.Tree{treeOf(t, values), smt.New()} {
		was, n := x.Root(), x.Len()
		for _, k := range wrong {
			if e := x.Put(k, "v"); e != api.ErrRange {
				t.Errorf("%.20q: %d", k, e)
			}
			if v, ok := x.Get(k); v != "" || ok || x.Root() != was || x.Len() != n || len(x.Keys()) != n {
				t.Errorf("%.20q: something is changed", k)
			}
		}
	}
}

func TestKeysRise(t *testing.T) {
	r := rand.New(rand.NewSource(13))
	for n := range 60 {
		values := someValues(r, n)
		is(t, treeOf(t, values), values)
	}
}

func TestKeysAreNewMemory(t *testing.T) {
	values := map[string]string{low: "a", last: "b", high: "c"}
	x := treeOf(t, values)
	l := x.Keys()
	l[0], l[2] = "x", "y"
	_ = append(l[:1], "z")
	is(t, x, values)
}

func TestCopy(t *testing.T) {
	r := rand.New(rand.NewSource(1))
	for n := range 30 {
		values := someValues(r, n)
		x := treeOf(t, values)
		y := x.Copy()
		is(t, y, values)
		mine, yours := maps.Clone(values), maps.Clone(values)
		for i := range 5 {
			a, b := fmt.Sprintf("%016d", i), fmt.Sprintf("%016d", r.Intn(8))
			mine[a], yours[b] = "mine", "yours"
			x.Put(a, "mine")
			y.Put(b, "yours")
			is(t, x, mine)
			is(t, y, yours)
		}
		for k := range values { // also of keys that both had
			mine[k], yours[k] = "m", "y"
			x.Put(k, "m")
			is(t, y, withOne(yours, k, values[k]))
			y.Put(k, "y")
			is(t, x, mine)
			break
		}
		z := y.Copy()
		z.Put(low, "z")
		is(t, x, mine)
		is(t, y, yours)
	}
}

func withOne(values map[string]string, k, v string) map[string]string {
	l := maps.Clone(values)
	l[k] = v
	return l
}

// Copies of an empty tree, ahead of its first Put, go their own way too.
func TestCopyOfAnEmptyTree(t *testing.T) {
	x := smt.New()
	y := x.Copy()
	if y == nil || y == x {
		t.Fatal("no other tree")
	}
	x.Put(low, "a")
	is(t, y, nil)
	y.Put(high, "b")
	is(t, x, map[string]string{low: "a"})
	is(t, y, map[string]string{high: "b"})
}

func TestNilTree(t *testing.T) {
	var x *smt.Tree
	for _, k := range append(wrong, low, high) { // ErrArg is ahead of ErrRange
		if e := x.Put(k, "v"); e != api.ErrArg {
			t.Errorf("%.20q: %d", k, e)
		}
		if v, ok := x.Get(k); v != "" || ok {
			t.Error(v, ok)
		}
		for _, depth := range depths {
			if x.Node(k, depth) != "\x00" {
				t.Errorf("%.20q, %d", k, depth)
			}
		}
	}
	if x.Len() != 0 || len(x.Keys()) != 0 || x.Copy() != nil || x.Root() != "\x00" {
		t.Error("nil")
	}
}

// A tree that New didn't make is promised nothing but an end.
func TestZeroTree(t *testing.T) {
	var x smt.Tree
	x.Len()
	x.Keys()
	x.Get(low)
	x.Root()
	x.Copy().Put(low, "")
	x.Put(low, "")
}

// P13.2

var depths = []int{math.MinInt, math.MinInt + 1, -1 << 32, -129, -128, -127, -8, -1, 0, 1, 2, 7, 8, 9, 63, 64, 119, 120, 121, 126, 127, 128, 129, 130, 200, 255, 256, 1 << 31, 1 << 32, 1<<32 + 1, math.MaxInt - 1, math.MaxInt}

func TestRoot(t *testing.T) {
	a, b, c := keyOf("00"), keyOf("01"), keyOf("1")
	x := smt.New()
	root := func(want string) {
		t.Helper()
		if x.Root() != want || x.Root() != want {
			t.Errorf("%x, want %x", x.Root(), want)
		}
	}
	root("\x00")
	x.Put(a, "1")
	root(leafOf(a, "1"))
	x.Put(b, "2")
	root(nodeOf(nodeOf(leafOf(a, "1"), leafOf(b, "2")), "\x00"))
	x.Put(c, "3")
	root(nodeOf(nodeOf(leafOf(a, "1"), leafOf(b, "2")), leafOf(c, "3")))
	x.Put(b, "4")
	root(nodeOf(nodeOf(leafOf(a, "1"), leafOf(b, "4")), leafOf(c, "3")))
}

// The digests of one tree, worked out by hand of the chapter's words elsewhere.
func TestRootAsItWasAlways(t *testing.T) {
	x := smt.New()
	x.Put("0123456789abcdef", "v")
	if h := hex.EncodeToString([]byte(x.Root())); h != "01be844f5bb1a73e7cae3ae3c546d7e5d0" {
		t.Error(h)
	}
	x.Put("0123456789abcdeg", "w")
	if h := hex.EncodeToString([]byte(x.Root())); h != "02ce1a17dfb3943d2479fbaca98bcd4320" {
		t.Error(h)
	}
}

// Of keys that part only late each bit that they have alike has a node of its own.
func TestKeysThatPartLate(t *testing.T) {
	for _, k := range []string{low, high, keyOf("10100101"), "0123456789abcdef"} {
		w := written(k)
		for depth := range 128 {
			other := keyOf(w[:depth] + string('0'+'1'-w[depth]) + w[depth+1:])
			x := smt.New()
			x.Put(other, "b")
			x.Put(k, "a")
			node := nodeOf(leafOf(k, "a"), leafOf(other, "b"))
			if w[depth] == '1' {
				node = nodeOf(leafOf(other, "b"), leafOf(k, "a"))
			}
			for i := depth; ; i-- {
				if x.Node(k, i) != node || x.Node(other, i) != node {
					t.Fatalf("%q, %d: the node at %d", k, depth, i)
				}
				if i == 0 {
					break
				}
				if w[i-1] == '1' {
					node = nodeOf("\x00", node)
				} else {
					node = nodeOf(node, "\x00")
				}
			}
			if x.Root() != node || x.Node(k, depth+1) != leafOf(k, "a") || x.Node(other, depth+1) != leafOf(other, "b") {
				t.Fatalf("%q, %d", k, depth)
			}
		}
	}
}

func TestNode(t *testing.T) {
	r := rand.New(rand.NewSource(2))
	for n := range 12 {
		values := someValues(r, n)
		x := treeOf(t, values)
		beginnings := []string{"", "\x80", "\x40", "\xff", high, low, last, high + "x", low + "\xff", "0123456789abcdef"}
		for _, k := range x.Keys() {
			beginnings = append(beginnings, k, k[:r.Intn(16)], k+"x", k[:15]+string([]byte{k[15] ^ 1}))
		}
		for _, s := range beginnings {
			for _, depth := range append(depths, r.Intn(128)) {
				if x.Node(s, depth) != above(values, written(s)[:min(max(depth, 0), 128)]) {
					t.Fatalf("%q, %d, of %q", s, depth, values)
				}
			}
		}
		is(t, x, values)
	}
}

// Both nodes below one, joined, are that node.
func TestNodesJoined(t *testing.T) {
	r := rand.New(rand.NewSource(3))
	x := treeOf(t, someValues(r, 50))
	for _, k := range x.Keys() {
		for depth := range 128 {
			w := written(k)[:depth]
			if x.Node(k, depth) != smt.Join(x.Node(keyOf(w+"0"), depth+1), x.Node(keyOf(w+"1"), depth+1)) {
				t.Fatalf("%q, %d", k, depth)
			}
		}
	}
}

// P13.3

func TestRootDependsOnValuesAlone(t *testing.T) {
	r := rand.New(rand.NewSource(4))
	for n := range 30 {
		values := someValues(r, n)
		want := above(values, "")
		keys := slices.Sorted(maps.Keys(values))
		for range 5 {
			r.Shuffle(len(keys), func(i, j int) { keys[i], keys[j] = keys[j], keys[i] })
			x := smt.New()
			for i, k := range keys {
				x.Put(k, "another one")
				x.Put(keys[r.Intn(i+1)], "one more")
				x.Node(k, i)
			}
			for _, k := range slices.Backward(keys) {
				x.Put(k, values[k])
			}
			if x.Root() != want || x.Copy().Root() != want {
				t.Error(n)
			}
		}
	}
}

// Of some keys all trees, each key with one of two values or none: no two roots
// are the same.
func TestOtherTreesHaveOtherRoots(t *testing.T) {
	for _, keys := range [][]string{
		{keyOf("00"), keyOf("01"), keyOf("10"), keyOf("11")},
		{low, last, high, high[:15] + "\xfe"},
		{keyOf("0"), keyOf("00001"), keyOf("000010001"), keyOf("00001000101")},
	} {
		seen := map[string]int{}
		for n := range 81 {
			x := smt.New()
			for i, rest := 0, n; i < len(keys); i, rest = i+1, rest/3 {
				if rest%3 > 0 {
					x.Put(keys[i], []string{"", "a"}[rest%3-1])
				}
			}
			if other, ok := seen[x.Root()]; ok {
				t.Errorf("%q: the trees %d and %d", keys, n, other)
			}
			seen[x.Root()] = n
		}
	}
}

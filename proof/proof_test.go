package proof_test

import (
	"crypto/sha256"
	"encoding/binary"
	"fmt"
	"maps"
	"math"
	"math/rand"
	"slices"
	"strings"
	"testing"

	"plumbob/api"
	"plumbob/proof"
	"plumbob/smt"
)

// digest of a tag and texts, by the library of Go's own.
func digest(tag byte, l ...string) string {
	x := []byte{tag}
	for _, s := range l {
		x = binary.BigEndian.AppendUint32(x, uint32(len(s)))
		x = append(x, s...)
	}
	d := sha256.Sum256(x)
	return string(d[:16])
}

func leafOf(key, value string) string { return "\x01" + digest(9, key, value) }

func nodeOf(a, b string) string { return "\x02" + digest(10, a, b) }

// written: a key's bits as noughts and ones.
func written(s string) string {
	b := make([]byte, 8*len(s))
	for i := range b {
		b[i] = '0' + s[i/8]>>(7-i%8)&1
	}
	return string(b)
}

// keyOf 128 noughts and ones, of which the beginning is told.
func keyOf(beginning string) string {
	w := beginning + strings.Repeat("0", 128-len(beginning))
	b := make([]byte, 16)
	for i := range 128 {
		b[i/8] = 2*b[i/8] + w[i] - '0'
	}
	return string(b)
}

// otherAt: a key whose bit at a depth is the other one.
func otherAt(key string, depth int) string {
	w := []byte(written(key))
	w[depth] ^= 1
	return keyOf(string(w))
}

// mirrored: keys with their values, by their bits.
type mirrored map[string]string

func (m mirrored) tree() *smt.Tree {
	t := smt.New()
	for k, v := range m {
		t.Put(k, v)
	}
	return t
}

// below: the keys that begin so.
func (m mirrored) below(beginning string) []string {
	var keys []string
	for k := range m {
		if strings.HasPrefix(written(k), beginning) {
			keys = append(keys, k)
		}
	}
	return keys
}

// above the keys whose bits begin so: the node, by the words of layer 13.
func (m mirrored) above(beginning string) string {
	return m.aboveKeys(m.below(beginning), len(beginning))
}

func (m mirrored) aboveKeys(keys []string, depth int) string {
	switch len(keys) {
	case 0:
		return "\x00"
	case 1:
		return leafOf(keys[0], m[keys[0]])
	}
	var below [2][]string
	for _, k := range keys {
		next := written(k)[depth] - '0'
		below[next] = append(below[next], k)
	}
	a, b := m.aboveKeys(below[0], depth+1), m.aboveKeys(below[1], depth+1)
	switch {
	case a == "\x00" && b[0] == 1:
		return b
	case b == "\x00" && a[0] == 1:
		return a
	}
	return nodeOf(a, b)
}

// prove by the chapter's words.
func (m mirrored) prove(key string, from int) proof.Proof {
	var p proof.Proof
	w := written(key)
	for depth := from; len(m.below(w[:depth])) > 1; depth++ {
		p.Beside = append(p.Beside, m.above(w[:depth]+string('0'+'1'-w[depth])))
	}
	for _, k := range m.below(w[:from+len(p.Beside)]) {
		p.There, p.Key, p.Value = true, k, m[k]
	}
	return p
}

func same(p, q proof.Proof) bool {
	return slices.Equal(p.Beside, q.Beside) && p.There == q.There && p.Key == q.Key && p.Value == q.Value
}

// shown: a proof's beginning, for what a test tells.
func shown(p proof.Proof) string {
	return fmt.Sprintf("%.300s", fmt.Sprintf("%q %t %q %.50q", p.Beside, p.There, p.Key, p.Value))
}

func isZero(p proof.Proof) bool { return same(p, proof.Proof{}) }

var (
	low  = keyOf("")
	high = strings.Repeat("\xff", 16)
	text = "0123456789abcdef"
)

var values = []string{"", "a", "\x00", "\x01", "ж\xff", strings.Repeat("x", 16), strings.Repeat("long", 1500)}

// notKeys: texts that are no key.
var notKeys = []string{"", "a", high[:15], high + "\xff", low[:1], low + low, strings.Repeat("x", 5000)}

var notDepths = []int{math.MinInt, math.MinInt + 1, math.MinInt + 128, -1 << 32, -129, -128, -127, -8, -2, -1, 129, 130, 136, 255, 256, 1 << 31, 1 << 32, 1<<32 + 1, math.MaxInt - 128, math.MaxInt - 1, math.MaxInt}

// someValues of keys: by chance, near together, and such as part only late.
func someValues(r *rand.Rand, n int) mirrored {
	m := mirrored{}
	base := make([]byte, 16)
	r.Read(base)
	for range n {
		k := slices.Clone(base)
		switch r.Intn(4) {
		case 0:
			r.Read(k)
		case 1:
			k[0] = byte(r.Intn(256))
		case 2:
			k[r.Intn(16)] ^= 128 >> r.Intn(8)
		case 3:
			k[15] = byte(r.Intn(256))
		}
		m[string(k)] = values[r.Intn(len(values)-1)]
	}
	return m
}

// asked: all keys of a tree, and such as aren't there.
func asked(r *rand.Rand, m mirrored) []string {
	l := []string{low, high, text}
	for _, k := range slices.Sorted(maps.Keys(m)) {
		l = append(l, k, otherAt(k, 127), otherAt(k, r.Intn(128)), otherAt(k, r.Intn(16)))
	}
	return l
}

// P14.1

func TestProve(t *testing.T) {
	r := rand.New(rand.NewSource(14))
	for n := range 14 {
		m := someValues(r, n)
		x := m.tree()
		for _, k := range asked(r, m) {
			for _, from := range []int{0, 1, 2, 3, 4, 8, r.Intn(129), 119, 120, 121, 127, 128} {
				p, e := proof.Prove(x, k, from)
				if e != api.OK || !same(p, m.prove(k, from)) {
					t.Fatalf("%q, %d, of %q: %s, %d", k, from, m, shown(p), e)
				}
			}
		}
		if x.Len() != len(m) || x.Root() != m.above("") {
			t.Error("the tree is changed")
		}
	}
}

func TestProveOfAnEmptyTree(t *testing.T) {
	for _, x := range []*smt.Tree{nil, smt.New()} {
		for from := range 129 {
			for _, k := range []string{low, high, text} {
				if p, e := proof.Prove(x, k, from); e != api.OK || !isZero(p) || p.Node(k, from) != "\x00" || !p.Lacks("\x00", k, from) {
					t.Errorf("%q, %d: %s, %d", k, from, shown(p), e)
				}
			}
		}
	}
}

// Of a tree of one key its leaf is there, wherever the other one begins as it does.
func TestProveOfOneKey(t *testing.T) {
	x := mirrored{text: "v"}.tree()
	for part := range 129 {
		k := text
		if part < 128 {
			k = otherAt(text, part)
		}
		for from := range 129 {
			var want proof.Proof
			node := "\x00"
			if from <= part {
				want, node = proof.Proof{There: true, Key: text, Value: "v"}, leafOf(text, "v")
			}
			p, e := proof.Prove(x, k, from)
			if e != api.OK || !same(p, want) || p.Node(k, from) != node {
				t.Errorf("%d, %d: %s, %d", part, from, shown(p), e)
			}
			if part < 128 && !p.Lacks(node, k, from) || part == 128 && !p.Has(node, k, "v", from) {
				t.Errorf("%d, %d: not so", part, from)
			}
		}
	}
}

func TestProveOfKeysThatPartLate(t *testing.T) {
	other := otherAt(text, 127)
	x := mirrored{text: "v", other: "w"}.tree()
	for from := range 128 {
		p, e := proof.Prove(x, text, from)
		if e != api.OK || len(p.Beside) != 128-from || p.Beside[127-from] != leafOf(other, "w") || !p.There || p.Key != text || p.Value != "v" {
			t.Fatalf("%d: %s, %d", from, shown(p), e)
		}
		for _, node := range p.Beside[:127-from] {
			if node != "\x00" {
				t.Fatalf("%d: %s", from, shown(p))
			}
		}
		if !p.Has(x.Node(text, from), text, "v", from) {
			t.Error(from)
		}
	}
}

func TestProveOfNoKeyOrDepth(t *testing.T) {
	for _, x := range []*smt.Tree{nil, smt.New(), mirrored{low: "a", high: "b"}.tree()} {
		for _, k := range notKeys {
			for _, from := range append(notDepths, 0, 1, 127, 128) {
				if p, e := proof.Prove(x, k, from); e != api.ErrRange || !isZero(p) {
					t.Errorf("%.20q, %d: %s, %d", k, from, shown(p), e)
				}
			}
		}
		for _, from := range notDepths {
			if p, e := proof.Prove(x, low, from); e != api.ErrRange || !isZero(p) {
				t.Errorf("%d: %s, %d", from, shown(p), e)
			}
		}
	}
}

func TestProofsAreNewMemory(t *testing.T) {
	m := mirrored{keyOf("000"): "a", keyOf("001"): "b", keyOf("01"): "c", keyOf("1"): "d"}
	x := m.tree()
	p, _ := proof.Prove(x, low, 0)
	q, _ := proof.Prove(x, low, 0)
	for i := range p.Beside {
		p.Beside[i] = "x"
	}
	again, _ := proof.Prove(x, low, 0)
	if !same(q, m.prove(low, 0)) || !same(again, q) || x.Root() != m.above("") {
		t.Error("shared")
	}
}

// may a proof be, as wanted? One that may not tells nothing, of any node.
func may(t *testing.T, p proof.Proof, key string, from int, want bool, what string) {
	t.Helper()
	if p.Good(key, from) != want {
		t.Errorf("%s: not %t", what, want)
	}
	node := p.Node(key, from)
	if want != (node != "") {
		t.Errorf("%s: its node is %q", what, node)
	}
	if !want && (p.Has(node, key, p.Value, from) || p.Lacks(node, key, from) || p.Has("", p.Key, p.Value, from) || p.Lacks("", key, from) || p.Has("\x00", key, "", from) || p.Lacks("\x00", key, from)) {
		t.Errorf("%s: it tells something", what)
	}
	if after, e := p.After(key, "new", from); want && (e != api.OK || after == "") || !want && (e != api.ErrProof || after != "") {
		t.Errorf("%s: After is %q, %d", what, after, e)
	}
}

var (
	leaf  = leafOf(high, "h")
	inner = nodeOf(leaf, leafOf(otherAt(high, 127), "i"))
)

func TestGoodOfNothing(t *testing.T) {
	for _, from := range []int{0, 1, 64, 127, 128} {
		may(t, proof.Proof{}, low, from, true, "nothing")
		may(t, proof.Proof{Beside: []string{}}, low, from, true, "an empty list")
		may(t, proof.Proof{Key: low}, low, from, false, "a Key without a leaf")
		may(t, proof.Proof{Value: "v"}, low, from, false, "a Value without a leaf")
		may(t, proof.Proof{Key: "\x00"}, low, from, false, "a short Key without a leaf")
	}
}

func TestGoodOfNoKeyOrDepth(t *testing.T) {
	full := slices.Repeat([]string{inner}, 128)
	for _, p := range []proof.Proof{{}, {There: true, Key: low}, {Beside: []string{inner}}, {Beside: full}} {
		for _, from := range notDepths {
			may(t, p, low, from, false, "no depth")
		}
		for _, k := range notKeys {
			may(t, p, k, 0, false, "no key")
		}
	}
	for _, k := range notKeys {
		may(t, proof.Proof{There: true, Key: k}, k, 0, false, "no key, and a leaf of none")
	}
}

// The depth and how many Beside are 128 at most together.
func TestGoodByDepth(t *testing.T) {
	for n := range 140 {
		l := slices.Repeat([]string{inner}, n)
		for _, from := range []int{0, 1, 8, 64, 126, 127, 128} {
			may(t, proof.Proof{Beside: l}, low, from, from+n <= 128, "some beside")
			may(t, proof.Proof{Beside: l, There: true, Key: low}, low, from, from+n <= 128, "some beside, and a leaf")
		}
		for _, from := range notDepths {
			may(t, proof.Proof{Beside: l}, low, from, false, "some beside, at no depth")
		}
	}
	may(t, proof.Proof{Beside: slices.Repeat([]string{inner}, 1000)}, low, 0, false, "a thousand")
}

func TestGoodByBeside(t *testing.T) {
	for _, x := range []struct {
		node     string
		may      bool // anywhere but as the last one
		last     bool // as the last one, where there's a leaf
		lastBare bool // as the last one, where there's none
	}{
		{"\x00", true, false, false},
		{leaf, true, true, false},
		{inner, true, true, true},
		{"\x01" + strings.Repeat("\x00", 16), true, true, false},
		{"\x02" + strings.Repeat("\xff", 16), true, true, true},
		{"", false, false, false},
		{"\x01", false, false, false},
		{"\x02", false, false, false},
		{"\x03", false, false, false},
		{"\x00\x00", false, false, false},
		{"\x00" + leaf[1:], false, false, false},
		{"\x03" + leaf[1:], false, false, false},
		{"\xff" + leaf[1:], false, false, false},
		{leaf[:16], false, false, false},
		{inner[:16], false, false, false},
		{leaf + "\x00", false, false, false},
		{inner + "\x00", false, false, false},
		{leaf[1:], false, false, false},
		{inner + inner, false, false, false},
		{strings.Repeat("\x02", 5000), false, false, false},
	} {
		for _, from := range []int{0, 3, 124} {
			for place := range 2 {
				l := []string{inner, leaf, inner}
				l[place] = x.node
				may(t, proof.Proof{Beside: l}, low, from, x.may, "beside none")
				may(t, proof.Proof{Beside: l, There: true, Key: low}, low, from, x.may, "beside a leaf")
			}
			for _, ahead := range [][]string{nil, {leaf}, {"\x00", "\x00"}, {inner, "\x00"}} {
				l := append(slices.Clone(ahead), x.node)
				may(t, proof.Proof{Beside: l}, low, from, x.lastBare, "the last one beside none")
				may(t, proof.Proof{Beside: l, There: true, Key: low}, low, from, x.last, "the last one beside a leaf")
				may(t, proof.Proof{Beside: l, There: true, Key: otherAt(low, 127), Value: "v"}, low, from, x.last, "the last one beside another key's leaf")
			}
		}
	}
}

func TestGoodByKey(t *testing.T) {
	for n := range 129 {
		l := slices.Repeat([]string{inner}, n)
		for _, from := range []int{0, 1, 64, 128 - n} {
			if from+n > 128 {
				continue
			}
			for part := range 128 {
				may(t, proof.Proof{Beside: l, There: true, Key: otherAt(text, part), Value: "v"}, text, from, part >= from+n, "a leaf that parts")
			}
			for _, k := range notKeys {
				may(t, proof.Proof{Beside: l, There: true, Key: k, Value: "v"}, low, from, false, "a leaf of no key")
			}
		}
	}
	for _, k := range []string{low[:15], low + "\x00", "", low + low} { // they'd begin alike
		may(t, proof.Proof{There: true, Key: k}, low, 0, false, "a leaf of no key")
	}
}

func TestGoodByValue(t *testing.T) {
	for _, v := range append(values, strings.Repeat("x", 70000)) {
		may(t, proof.Proof{There: true, Key: low, Value: v}, low, 0, true, "any value")
	}
}

func TestNode(t *testing.T) {
	k := keyOf("0110")
	v := leafOf(k, "v")
	for _, x := range []struct {
		from int
		p    proof.Proof
		want string
	}{
		{0, proof.Proof{There: true, Key: k, Value: "v"}, v},
		{128, proof.Proof{There: true, Key: k, Value: "v"}, v},
		{0, proof.Proof{Beside: []string{leaf}, There: true, Key: k, Value: "v"}, nodeOf(v, leaf)},
		{1, proof.Proof{Beside: []string{leaf}, There: true, Key: k, Value: "v"}, nodeOf(leaf, v)},
		{2, proof.Proof{Beside: []string{leaf}, There: true, Key: k, Value: "v"}, nodeOf(leaf, v)},
		{3, proof.Proof{Beside: []string{leaf}, There: true, Key: k, Value: "v"}, nodeOf(v, leaf)},
		{0, proof.Proof{Beside: []string{leaf, inner}, There: true, Key: k, Value: "v"}, nodeOf(nodeOf(inner, v), leaf)},
		{2, proof.Proof{Beside: []string{leaf, inner}, There: true, Key: k, Value: "v"}, nodeOf(leaf, nodeOf(v, inner))},
		{0, proof.Proof{Beside: []string{"\x00", leaf}, There: true, Key: k, Value: "v"}, nodeOf(nodeOf(leaf, v), "\x00")},
		{0, proof.Proof{Beside: []string{inner}}, nodeOf("\x00", inner)},
		{1, proof.Proof{Beside: []string{inner}}, nodeOf(inner, "\x00")},
		{0, proof.Proof{Beside: []string{leaf, inner}}, nodeOf(nodeOf(inner, "\x00"), leaf)},
		{0, proof.Proof{}, "\x00"},
	} {
		if n := x.p.Node(k, x.from); n != x.want {
			t.Errorf("%s, %d: %q, want %q", shown(x.p), x.from, n, x.want)
		}
	}
}

func TestHasAndLacks(t *testing.T) {
	k, other := keyOf("0110"), keyOf("0111")
	p := proof.Proof{Beside: []string{leaf}, There: true, Key: k, Value: "v"}
	n := nodeOf(leafOf(k, "v"), leaf)
	tell := func(got, want bool, what string) {
		t.Helper()
		if got != want {
			t.Errorf("%s: %t", what, got)
		}
	}
	tell(p.Has(n, k, "v", 0), true, "as it is")
	tell(p.Lacks(n, k, 0), false, "as it isn't")
	tell(p.Has(n, k, "w", 0), false, "another value")
	tell(p.Has(n, k, "", 0), false, "no value")
	tell(p.Has(n, other, "v", 0), false, "another key, alike so far")
	tell(p.Lacks(n, other, 0), true, "another key lacks")
	tell(p.Lacks(n, high, 0), false, "a key that doesn't begin so")
	tell(p.Has(leaf, k, "v", 0), false, "another node")
	tell(p.Lacks(leaf, other, 0), false, "another node lacks")
	for _, x := range []string{"", "\x00", n[:16], n + "\x00", "\x01" + n[1:]} {
		tell(p.Has(x, k, "v", 0), false, "no such node")
		tell(p.Lacks(x, other, 0), false, "no such node lacks")
	}
	for _, from := range append(notDepths, 1, 2, 128) {
		tell(p.Has(n, k, "v", from), false, "another depth")
		tell(p.Lacks(n, other, from), false, "another depth lacks")
	}
	tell(p.Has(n, k, "v", 3), true, "a depth whose bit is the same")
	none := proof.Proof{Beside: []string{inner}}
	tell(none.Lacks(nodeOf("\x00", inner), k, 0), true, "no leaf")
	tell(none.Lacks(nodeOf(inner, "\x00"), k, 0), false, "no leaf, at the other side")
	tell(none.Has(nodeOf("\x00", inner), k, "", 0), false, "no leaf has nothing")
	tell(none.Has(nodeOf("\x00", inner), "", "", 0), false, "no leaf and no key")
}

// P14.2

func TestProofsTellWhatTheTreeHas(t *testing.T) {
	r := rand.New(rand.NewSource(5))
	for n := range 16 {
		m := someValues(r, n)
		x := m.tree()
		for _, k := range asked(r, m) {
			for _, from := range []int{0, 1, r.Intn(129), r.Intn(16), 127, 128} {
				p, _ := proof.Prove(x, k, from)
				node := m.above(written(k)[:from])
				v, there := m[k]
				if !p.Good(k, from) || p.Node(k, from) != node || x.Node(k, from) != node {
					t.Errorf("%q, %d, of %q: the node", k, from, m)
				}
				if p.Has(node, k, v, from) != there || p.Lacks(node, k, from) == there || p.Has(node, k, v+"x", from) {
					t.Errorf("%q, %d, of %q: %s", k, from, m, shown(p))
				}
			}
		}
	}
}

// forged proofs, each with one thing another one.
func forged(p proof.Proof, keys []string, nodes []string) []proof.Proof {
	var l []proof.Proof
	with := func(change func(q *proof.Proof)) {
		q := p
		q.Beside = slices.Clone(p.Beside)
		change(&q)
		if !same(p, q) {
			l = append(l, q)
		}
	}
	with(func(q *proof.Proof) { q.There = !q.There })
	with(func(q *proof.Proof) { q.There, q.Key, q.Value = false, "", "" })
	for _, k := range keys {
		with(func(q *proof.Proof) { q.There, q.Key = true, k })
		with(func(q *proof.Proof) { q.There, q.Key, q.Value = true, k, "v" })
	}
	ends := max(0, len(p.Beside)-4) // of a long one its last ones alone
	for i := ends; i < len(p.Beside); i++ {
		with(func(q *proof.Proof) { q.Beside = slices.Delete(q.Beside, i, i+1) })
		with(func(q *proof.Proof) { q.Beside = q.Beside[:i] })
		for j := range i {
			with(func(q *proof.Proof) { q.Beside[i], q.Beside[j] = q.Beside[j], q.Beside[i] })
		}
	}
	for _, x := range nodes {
		for i := ends; i < len(p.Beside); i++ {
			with(func(q *proof.Proof) { q.Beside[i] = x })
			with(func(q *proof.Proof) { q.Beside = slices.Insert(q.Beside, i, x) })
		}
		with(func(q *proof.Proof) { q.Beside = append(q.Beside, x) })
		with(func(q *proof.Proof) { q.Beside, q.There, q.Key, q.Value = append(q.Beside, x), false, "", "" })
	}
	return l
}

// lies: does a proof tell of the tree's node what isn't so?
func lies(m mirrored, node string, p proof.Proof, k string, from int) bool {
	v, there := m[k]
	for _, x := range []string{"", "v", "w", p.Value} {
		if p.Has(node, k, x, from) && (!there || x != v) {
			return true
		}
	}
	return p.Lacks(node, k, from) && there
}

func TestForgedProofsTellNothingElse(t *testing.T) {
	r := rand.New(rand.NewSource(6))
	for _, n := range []int{0, 1, 2, 3, 5} {
		m := someValues(r, n)
		x := m.tree()
		keys := asked(r, m)
		nodes := []string{"\x00"}
		for _, k := range keys {
			nodes = append(nodes, leafOf(k, m[k]), x.Node(k, 1), x.Node(k, 2))
		}
		slices.Sort(nodes)
		nodes = slices.Compact(nodes)
		for _, k := range keys {
			for _, from := range []int{0, 2, 120} {
				p, _ := proof.Prove(x, k, from)
				node := m.above(written(k)[:from])
				for _, q := range forged(p, keys, nodes) {
					if lies(m, node, q, k, from) {
						t.Fatalf("%q, %d, of %q: %s", k, from, m, shown(q))
					}
				}
			}
		}
	}
}

// lists of some nodes, up to so many.
func lists(nodes []string, most int) [][]string {
	l := [][]string{nil}
	for begin, size := 0, 0; size < most; size++ {
		end := len(l)
		for _, x := range l[begin:end] {
			for _, node := range nodes {
				l = append(l, append(slices.Clone(x), node))
			}
		}
		begin = end
	}
	return l
}

// Of small trees all proofs that their own nodes make: none tells otherwise.
func TestNoProofOfATreesNodesTellsOtherwise(t *testing.T) {
	a, b, c, d := keyOf("00"), keyOf("01"), keyOf("001"), keyOf("1")
	for _, m := range []mirrored{{}, {a: "v"}, {d: ""}, {a: "v", b: "w"}, {a: "v", c: "v"}, {b: "", d: "w"}, {a: "v", b: "", c: "w"}, {a: "v", c: "w", d: ""}, {a: "v", b: "", c: "w", d: "v"}} {
		nodes := []string{"\x00"}
		for _, w := range []string{"", "0", "1", "00", "01", "000", "001", "010"} {
			if n := m.above(w); !slices.Contains(nodes, n) {
				nodes = append(nodes, n)
			}
		}
		leaves := []proof.Proof{{}}
		for _, k := range []string{a, b, c, d} {
			for _, v := range []string{"", "v", "w"} {
				leaves = append(leaves, proof.Proof{There: true, Key: k, Value: v})
			}
		}
		root := m.above("")
		for _, l := range lists(nodes, 3) {
			for _, p := range leaves {
				p.Beside = l
				for _, k := range []string{a, b, c, d} {
					if lies(m, root, p, k, 0) {
						t.Fatalf("%q, of %q: %s", k, m, shown(p))
					}
				}
			}
		}
	}
}

// A leaf that is told to stand beside an empty node tells the same node as the
// leaf alone, but may not be.
func TestLeafBesideAnEmptyNode(t *testing.T) {
	m := mirrored{high: "v"}
	root := m.above("")
	for n := range 4 {
		bare := proof.Proof{Beside: append(slices.Repeat([]string{"\x00"}, n), root)}
		may(t, bare, high, 0, false, "told to stand beside none")
		may(t, bare, low, 0, false, "told to stand beside none, of another key")
		if bare.Lacks(root, high, 0) {
			t.Error("it's there")
		}
		there := proof.Proof{Beside: slices.Repeat([]string{"\x00"}, n+1), There: true, Key: high, Value: "v"}
		may(t, there, high, 0, false, "told to stand deeper")
		if there.Has(root, high, "v", 0) {
			t.Error("it stands higher")
		}
	}
}

// P14.3

func TestAfter(t *testing.T) {
	r := rand.New(rand.NewSource(7))
	for n := range 16 {
		m := someValues(r, n)
		x := m.tree()
		for _, k := range asked(r, m) {
			for _, from := range []int{0, 1, r.Intn(129), r.Intn(16), 127, 128} {
				p, _ := proof.Prove(x, k, from)
				v := values[r.Intn(len(values))]
				put := x.Copy()
				put.Put(k, v)
				after, e := p.After(k, v, from)
				if e != api.OK || after != put.Node(k, from) {
					t.Errorf("%q, %d, of %q: %q, %d", k, from, m, after, e)
				}
				if !same(p, m.prove(k, from)) {
					t.Error("the proof is changed")
				}
			}
		}
	}
}

// Beside the leaf that is there another one is put, that parts from it at each bit.
func TestAfterThatParts(t *testing.T) {
	for part := range 128 {
		k := otherAt(text, part)
		for _, m := range []mirrored{{text: "v"}, {text: "v", otherAt(text, 0): "w"}, {text: "v", otherAt(text, 2): "w", otherAt(text, 3): "x"}} {
			for from := range part + 1 {
				p, _ := proof.Prove(m.tree(), k, from)
				put := m.tree()
				put.Put(k, "new")
				if after, e := p.After(k, "new", from); e != api.OK || after != put.Node(k, from) {
					t.Errorf("%d, %d: %q, %d", part, from, after, e)
				}
			}
		}
	}
}

func TestAfterByHand(t *testing.T) {
	k, other := keyOf("0110"), keyOf("011")
	other = otherAt(other, 4)
	v, w, x := leafOf(k, "v"), leafOf(k, "w"), leafOf(other, "x")
	for _, c := range []struct {
		p    proof.Proof
		from int
		want string
	}{
		{proof.Proof{}, 0, w},
		{proof.Proof{}, 128, w},
		{proof.Proof{There: true, Key: k, Value: "v"}, 0, w},
		{proof.Proof{Beside: []string{leaf}, There: true, Key: k, Value: "v"}, 0, nodeOf(w, leaf)},
		{proof.Proof{Beside: []string{inner}}, 1, nodeOf(inner, w)},
		{proof.Proof{There: true, Key: other, Value: "x"}, 4, nodeOf(w, x)},
		{proof.Proof{There: true, Key: other, Value: "x"}, 2, nodeOf("\x00", nodeOf(nodeOf(w, x), "\x00"))},
		{proof.Proof{Beside: []string{leaf}, There: true, Key: other, Value: "x"}, 1, nodeOf(leaf, nodeOf("\x00", nodeOf(nodeOf(w, x), "\x00")))},
	} {
		if after, e := c.p.After(k, "w", c.from); e != api.OK || after != c.want {
			t.Errorf("%s, %d: %q, %d", shown(c.p), c.from, after, e)
		}
	}
	if v == w {
		t.Error("one leaf for two values")
	}
}

// The room behind a list's length is not written to.
func TestRoomBehindBesideIsKept(t *testing.T) {
	room := []string{inner, "a", "b", "c", "d"}
	p := proof.Proof{Beside: room[:1], There: true, Key: otherAt(low, 3), Value: "v"}
	p.After(low, "w", 0)
	p.Node(low, 0)
	p.Has(inner, low, "v", 0)
	p.Encode()
	if !slices.Equal(room, []string{inner, "a", "b", "c", "d"}) {
		t.Errorf("%q", room)
	}
}

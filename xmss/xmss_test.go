package xmss_test

import (
	"crypto/sha256"
	"encoding/binary"
	"math"
	"slices"
	"strings"
	"testing"

	"plumbob/api"
	"plumbob/merkle"
	"plumbob/wots"
	"plumbob/xmss"
)

// tagged by the library of Go's own.
func tagged(tag byte, l ...string) string {
	b := []byte{tag}
	for _, s := range l {
		b = binary.BigEndian.AppendUint32(b, uint32(len(s)))
		b = append(b, s...)
	}
	d := sha256.Sum256(b)
	return string(d[:16])
}

// digestOf a message for an index.
func digestOf(open string, index int, message string) string {
	return tagged(6, open, string(binary.BigEndian.AppendUint32(nil, uint32(index))), message)
}

func leavesOf(seed string, height int) []string {
	var l []string
	for i := 0; i < 1<<height; i++ {
		l = append(l, wots.Public(seed, i))
	}
	return l
}

// publicOf a seed and a height by the chapter's words.
func publicOf(seed string, height int) xmss.Public {
	root, _ := merkle.Root(leavesOf(seed, height))
	return xmss.Public{Open: tagged(3, seed), Root: root, Height: height}
}

// signed by the chapter's words.
func signed(seed string, height, index int, message string) xmss.Sig {
	chains, _ := wots.Sign(seed, index, digestOf(tagged(3, seed), index, message))
	path, _ := merkle.Path(leavesOf(seed, height), index)
	return xmss.Sig{Index: index, Chains: chains, Path: path}
}

func same(a, b xmss.Sig) bool {
	return a.Index == b.Index && slices.Equal(a.Chains, b.Chains) && slices.Equal(a.Path, b.Path)
}

func isZero(s xmss.Sig) bool {
	return s.Index == 0 && len(s.Chains) == 0 && len(s.Path) == 0
}

func clone(s xmss.Sig) xmss.Sig {
	return xmss.Sig{Index: s.Index, Chains: slices.Clone(s.Chains), Path: slices.Clone(s.Path)}
}

func key(t *testing.T, seed string, height int) *xmss.Key {
	t.Helper()
	k, e := xmss.New(seed, height)
	if e != api.OK || k == nil {
		t.Fatal(e)
	}
	return k
}

func sign(t *testing.T, k *xmss.Key, index int, message string) xmss.Sig {
	t.Helper()
	s, e := k.Sign(index, message)
	if e != api.OK {
		t.Fatal(index, e)
	}
	return s
}

var seeds = []string{"", "seed", "\x00", "\xff\xfe", strings.Repeat("long", 300)}

var messages = []string{"", "hello", "\x00", "\xff\xfe", "ж", strings.Repeat("long", 3000)}

// changed: a text of another byte at some place.
func changed(s string, at int) string {
	b := []byte(s)
	b[at] ^= 1
	return string(b)
}

// P8.1

func TestNew(t *testing.T) {
	for height := 0; height <= api.MaxHeight; height++ {
		k := key(t, "seed", height)
		if k.Public() != publicOf("seed", height) || k.Count() != 1<<height {
			t.Error(height, k.Count())
		}
	}
	for _, seed := range seeds {
		if k := key(t, seed, 1); k.Public() != publicOf(seed, 1) || k.Count() != 2 {
			t.Errorf("%.10q", seed)
		}
	}
}

func TestNewOfNoHeight(t *testing.T) {
	for _, height := range []int{-1, -2, -64, math.MinInt, 7, 8, 31, 32, 63, 64, 256, math.MaxInt} {
		if k, e := xmss.New("seed", height); k != nil || e != api.ErrArg {
			t.Error(height, k, e)
		}
	}
}

func TestSign(t *testing.T) {
	for height := 0; height <= api.MaxHeight; height++ {
		k := key(t, "seed", height)
		leaves := leavesOf("seed", height)
		for i := range leaves {
			s := sign(t, k, i, "hello")
			chains, _ := wots.Sign("seed", i, digestOf(wots.Open("seed"), i, "hello"))
			path, _ := merkle.Path(leaves, i)
			if !same(s, xmss.Sig{Index: i, Chains: chains, Path: path}) || len(s.Chains) != 35 || len(s.Path) != height {
				t.Error(height, i)
			}
		}
	}
}

func TestSignAnyMessageBySeeds(t *testing.T) {
	for _, seed := range seeds {
		k := key(t, seed, 2)
		for _, m := range messages {
			if !same(sign(t, k, 3, m), signed(seed, 2, 3, m)) {
				t.Errorf("%.10q, %.10q", seed, m)
			}
		}
	}
}

func TestSignBeyondTheCount(t *testing.T) {
	for height := 0; height <= api.MaxHeight; height++ {
		k := key(t, "seed", height)
		n := k.Count()
		for _, i := range []int{n, n + 1, 2 * n, 256, 1 << 32, math.MaxInt} {
			if s, e := k.Sign(i, "hello"); !isZero(s) || e != api.ErrSpent {
				t.Error(height, i, e)
			}
		}
		for _, i := range []int{-1, -n, -256, -1 << 32, math.MinInt} {
			if s, e := k.Sign(i, "hello"); !isZero(s) || e != api.ErrRange {
				t.Error(height, i, e)
			}
		}
		if !same(sign(t, k, n-1, "hello"), signed("seed", height, n-1, "hello")) {
			t.Error(height, "another signature behind errors")
		}
	}
}

func TestAKeyAnswersTheSameAgain(t *testing.T) {
	k := key(t, "seed", 2)
	a := sign(t, k, 1, "hello")
	k.Sign(1, "hallo")
	k.Sign(9, "hello")
	if p := k.Public(); p != publicOf("seed", 2) || !same(sign(t, k, 1, "hello"), a) || k.Count() != 4 {
		t.Error("a signature made another key of it")
	}
	for i := range a.Chains {
		a.Chains[i] = "x"
	}
	for i := range a.Path {
		a.Path[i] = "x"
	}
	_ = append(a.Path, "x")
	if !same(sign(t, k, 1, "hello"), signed("seed", 2, 1, "hello")) || !same(sign(t, k, 2, "hello"), signed("seed", 2, 2, "hello")) {
		t.Error("a signature shares the key's memory")
	}
}

func TestNilKey(t *testing.T) {
	var k *xmss.Key
	if k.Public() != (xmss.Public{}) || k.Count() != 0 {
		t.Error(k.Public(), k.Count())
	}
	for _, i := range []int{0, 1, -1, math.MaxInt, math.MinInt} {
		if s, e := k.Sign(i, "hello"); !isZero(s) || e != api.ErrArg {
			t.Error(i, s, e)
		}
	}
}

// P8.2

func TestVerifyOfSign(t *testing.T) {
	for height := 0; height <= api.MaxHeight; height++ {
		k := key(t, "seed", height)
		for i := range k.Count() {
			if !k.Public().Verify("hello", sign(t, k, i, "hello")) {
				t.Error(height, i)
			}
		}
	}
	for _, seed := range seeds {
		k := key(t, seed, 1)
		for _, m := range messages {
			if !k.Public().Verify(m, sign(t, k, 1, m)) {
				t.Errorf("%.10q, %.10q", seed, m)
			}
		}
	}
}

func TestVerifyOfAnotherMessage(t *testing.T) {
	k := key(t, "seed", 2)
	p := k.Public()
	for _, m := range messages {
		s := sign(t, k, 2, m)
		for _, other := range append(messages, m+"x", m+"\x00", "\x00"+m) {
			if other != m && p.Verify(other, s) {
				t.Errorf("%.10q, %.10q", m, other)
			}
		}
	}
}

func TestVerifyByAnotherKey(t *testing.T) {
	p := publicOf("seed", 2)
	s := signed("seed", 2, 2, "hello")
	wrong := []xmss.Public{{}, publicOf("seee", 2), publicOf("seed", 1), publicOf("seed", 3)}
	for at := range 16 {
		wrong = append(wrong, xmss.Public{Open: changed(p.Open, at), Root: p.Root, Height: 2}, xmss.Public{Open: p.Open, Root: changed(p.Root, at), Height: 2})
	}
	wrong = append(wrong, xmss.Public{Open: p.Root, Root: p.Open, Height: 2}, xmss.Public{Open: p.Open, Height: 2}, xmss.Public{Root: p.Root, Height: 2})
	for _, h := range []int{0, 1, 3, 4, 6, 7, 63, 64, 256 + 2, math.MaxInt, -1, -2, math.MinInt} {
		wrong = append(wrong, xmss.Public{Open: p.Open, Root: p.Root, Height: h})
	}
	for _, w := range wrong {
		if w.Verify("hello", s) {
			t.Error(w)
		}
	}
	if !p.Verify("hello", s) {
		t.Error("its own key")
	}
}

func TestVerifyOfAnotherIndex(t *testing.T) {
	p := publicOf("seed", 2)
	for i := range 4 {
		s := signed("seed", 2, i, "hello")
		for _, other := range []int{0, 1, 2, 3, i + 4, i + 8, i + 64, i + 256, i + 1<<32, i + 1<<62, i - 4, i - 8, i - 1<<32, i + math.MinInt, -1, -2, math.MaxInt} {
			s.Index = other
			if other != i && p.Verify("hello", s) {
				t.Error(i, other)
			}
		}
	}
}

func TestVerifyWithAnotherText(t *testing.T) {
	k := key(t, "seed", 3)
	p := k.Public()
	for i := range 8 {
		s := sign(t, k, i, "hello")
		for c := range s.Chains {
			for _, x := range []string{"", changed(s.Chains[c], 0), changed(s.Chains[c], 15), s.Chains[c][1:], s.Chains[c] + "x"} {
				u := clone(s)
				u.Chains[c] = x
				if p.Verify("hello", u) {
					t.Error(i, "chain", c)
				}
			}
		}
		for c := range s.Path {
			for _, x := range []string{"", changed(s.Path[c], 0), changed(s.Path[c], 15), s.Path[c][1:], s.Path[c] + "x"} {
				u := clone(s)
				u.Path[c] = x
				if p.Verify("hello", u) {
					t.Error(i, "path", c)
				}
			}
		}
	}
}

func TestVerifyWithMoreOrFewerTexts(t *testing.T) {
	k := key(t, "seed", 3)
	p, s := k.Public(), sign(t, k, 5, "hello")
	wrong := []xmss.Sig{
		{},
		{Index: 5},
		{Index: 5, Chains: s.Chains},
		{Index: 5, Path: s.Path},
		{Index: 5, Chains: s.Chains[1:], Path: s.Path},
		{Index: 5, Chains: s.Chains[:34], Path: s.Path},
		{Index: 5, Chains: append(slices.Clone(s.Chains), s.Chains[0]), Path: s.Path},
		{Index: 5, Chains: s.Chains, Path: s.Path[1:]},
		{Index: 5, Chains: s.Chains, Path: s.Path[:2]},
		{Index: 5, Chains: s.Chains, Path: append(slices.Clone(s.Path), "")},
		{Index: 5, Chains: s.Chains, Path: append(slices.Clone(s.Path), s.Path[0])},
		{Index: 5, Chains: s.Path, Path: s.Chains},
	}
	for i, w := range wrong {
		if p.Verify("hello", w) {
			t.Error(i)
		}
	}
}

// handMade: a public key of any height for a signature with that index and path, which climbs to its root.
func handMade(index, height int, path []string) (xmss.Public, xmss.Sig) {
	open := wots.Open("seed")
	chains, _ := wots.Sign("seed", index, digestOf(open, index, "hello"))
	root := merkle.Climb(wots.Public("seed", index), index, path)
	return xmss.Public{Open: open, Root: root, Height: height}, xmss.Sig{Index: index, Chains: chains, Path: path}
}

// The chapter bounds neither height nor texts here: what climbs to the root is verified.
func TestVerifyByKeysMadeByHand(t *testing.T) {
	for _, height := range []int{0, 1, 6, 7, 31, 32, 33, 62, 63, 64, 65, 70, 200} {
		for _, index := range []int{0, 1, 2, 63, 64, 127, 128, 1<<31 - 1, 1 << 31, 1<<32 - 1, 1 << 32, 1<<33 + 5, 1<<62 - 1, 1 << 62, math.MaxInt} {
			p, s := handMade(index, height, slices.Repeat([]string{"beside"}, height))
			there := height >= 63 || index < 1<<height
			if p.Verify("hello", s) != there {
				t.Error(height, index, !there)
			}
		}
		for _, index := range []int{-1, -2, -1 << 31, -1 << 32, math.MinInt} {
			p, s := handMade(index, height, slices.Repeat([]string{"beside"}, height))
			if p.Verify("hello", s) {
				t.Error(height, index)
			}
		}
	}
	for _, height := range []int{-1, -2, -64, math.MinInt, 1, 2, 64, math.MaxInt} {
		if p, s := handMade(0, height, nil); p.Verify("hello", s) {
			t.Error(height, "without a path")
		}
		if p, s := handMade(0, height, []string{"a", "b", "c"}); p.Verify("hello", s) {
			t.Error(height, "with a path of 3")
		}
	}
}

// Where no leaf's key is told, nothing climbs: also not what is told in its place.
func TestVerifyWhereRecoverTellsAnError(t *testing.T) {
	s := signed("seed", 2, 2, "hello")
	for _, path := range [][]string{nil, {"a"}, s.Path} {
		p := xmss.Public{Open: wots.Open("seed"), Root: merkle.Climb("", 0, path), Height: len(path)}
		for _, chains := range [][]string{nil, s.Chains[1:], append(slices.Clone(s.Chains[1:]), "")} {
			if p.Verify("hello", xmss.Sig{Chains: chains, Path: path}) {
				t.Error(len(path), len(chains))
			}
		}
	}
	if (xmss.Public{}).Verify("", xmss.Sig{}) {
		t.Error("the zero ones")
	}
}

func TestNothingHandedInIsChanged(t *testing.T) {
	p, s := publicOf("seed", 2), signed("seed", 2, 1, "hello")
	room := xmss.Sig{Index: 1, Chains: append(slices.Clone(s.Chains), "behind"), Path: append(slices.Clone(s.Path), "behind")}
	was := clone(room)
	s = xmss.Sig{Index: 1, Chains: room.Chains[:35], Path: room.Path[:2]}
	if !p.Verify("hello", s) || p.Verify("hallo", s) {
		t.Error("a signature with room behind it")
	}
	if _, e := s.Encode(); e != api.OK || !same(room, was) {
		t.Error("the signature was changed", e)
	}
}

package xmss_test

import (
	"math"
	"slices"
	"strings"
	"testing"

	"plumbob/api"
	"plumbob/xmss"
)

const (
	open16 = "0123456789abcdef"
	root16 = "\x00\xff234567890ABCDE"
)

// texts of 16 bytes, each another one.
func texts(n int, begin byte) []string {
	l := make([]string, n)
	for i := range l {
		l[i] = string([]byte{begin, byte(i)}) + "34567890123456"
	}
	return l
}

func sigOf(index, path int) xmss.Sig {
	return xmss.Sig{Index: index, Chains: texts(35, 'c'), Path: texts(path, 'p')}
}

// bytesOf a signature by the chapter's words, whether or not it may be.
func bytesOf(index byte, path int) string {
	return string([]byte{index}) + strings.Join(texts(35, 'c'), "") + string([]byte{byte(path)}) + strings.Join(texts(path, 'p'), "")
}

func noSigOf(t *testing.T, want api.Errno, b string) {
	t.Helper()
	if s, e := xmss.DecodeSig(b); !isZero(s) || e != want {
		t.Errorf("%d bytes: %d, want %d", len(b), e, want)
	}
}

func noPublicOf(t *testing.T, want api.Errno, b string) {
	t.Helper()
	if p, e := xmss.DecodePublic(b); p != (xmss.Public{}) || e != want {
		t.Errorf("%q: %d, want %d", b, e, want)
	}
}

// P8.3

func TestPublicInBytes(t *testing.T) {
	for height := 0; height <= api.MaxHeight; height++ {
		p := xmss.Public{Open: open16, Root: root16, Height: height}
		want := open16 + root16 + string([]byte{byte(height)})
		if b, e := p.Encode(); b != want || e != api.OK {
			t.Errorf("%d: %q %d", height, b, e)
		}
		if q, e := xmss.DecodePublic(want); q != p || e != api.OK {
			t.Error(height, q, e)
		}
	}
	p := publicOf("seed", 3)
	b, _ := p.Encode()
	if q, e := xmss.DecodePublic(b); q != p || e != api.OK || !q.Verify("hello", signed("seed", 3, 7, "hello")) {
		t.Error(q, e)
	}
}

func TestPublicThatMayNotBe(t *testing.T) {
	var wrong []xmss.Public
	for _, height := range []int{-1, -256, math.MinInt, 7, 8, 255, 256, 257, math.MaxInt} {
		wrong = append(wrong, xmss.Public{Open: open16, Root: root16, Height: height})
	}
	for _, n := range []int{0, 1, 15, 17, 32, 5000} {
		x := strings.Repeat("x", n)
		wrong = append(wrong, xmss.Public{Open: x, Root: root16}, xmss.Public{Open: open16, Root: x}, xmss.Public{Open: x, Root: x, Height: 9})
	}
	wrong = append(wrong, xmss.Public{}, xmss.Public{Open: open16 + "x", Root: root16[1:]}, xmss.Public{Open: open16[1:], Root: root16 + "x"})
	for _, p := range wrong {
		if b, e := p.Encode(); b != "" || e != api.ErrRange {
			t.Errorf("%.10q, %.10q, %d: %d", p.Open, p.Root, p.Height, e)
		}
	}
}

func TestPublicOfWrongBytes(t *testing.T) {
	for height := range 256 {
		b := open16 + root16 + string([]byte{byte(height)})
		for n := range b {
			noPublicOf(t, api.ErrShort, b[:n])
		}
		for _, more := range []string{"x", "\x00", b, strings.Repeat("x", 5000)} { // ErrLong is ahead of ErrForm
			noPublicOf(t, api.ErrLong, b+more)
		}
		if height > api.MaxHeight {
			noPublicOf(t, api.ErrForm, b)
		}
	}
}

func TestSigInBytes(t *testing.T) {
	for index := range 64 {
		for path := 0; path <= api.MaxHeight; path++ {
			s := sigOf(index, path)
			want := bytesOf(byte(index), path)
			if b, e := s.Encode(); b != want || e != api.OK || len(b) != 562+16*path {
				t.Error(index, path, len(b), e)
			}
			if u, e := xmss.DecodeSig(want); !same(u, s) || e != api.OK {
				t.Error(index, path, e)
			}
		}
	}
	s := signed("seed", 3, 7, "hello")
	b, _ := s.Encode()
	if u, e := xmss.DecodeSig(b); !same(u, s) || e != api.OK || !publicOf("seed", 3).Verify("hello", u) {
		t.Error(e)
	}
}

func TestSigThatMayNotBe(t *testing.T) {
	var wrong []xmss.Sig
	for _, index := range []int{-1, -64, -256, math.MinInt, 64, 65, 255, 256, 1 << 32, math.MaxInt} {
		wrong = append(wrong, sigOf(index, 3))
	}
	for _, chains := range []int{0, 1, 34, 36, 70} {
		wrong = append(wrong, xmss.Sig{Chains: texts(chains, 'c'), Path: texts(3, 'p')})
	}
	for _, path := range []int{7, 8, 64, 255, 256, 257} {
		wrong = append(wrong, sigOf(0, path))
	}
	for _, x := range []string{"", "x", open16[1:], open16 + "x", open16 + open16, strings.Repeat("x", 5000)} {
		for c := range 35 {
			s := sigOf(0, 6)
			s.Chains[c] = x
			wrong = append(wrong, s)
		}
		for c := range 6 {
			s := sigOf(0, 6)
			s.Path[c] = x
			wrong = append(wrong, s)
		}
	}
	joined := sigOf(0, 2) // as many bytes in all
	joined.Chains[0], joined.Chains[1] = open16+"x", open16[1:]
	moved := sigOf(0, 2)
	moved.Chains, moved.Path = append(moved.Chains, moved.Path[0]), moved.Path[1:]
	for i, s := range append(wrong, joined, moved, xmss.Sig{}) {
		if b, e := s.Encode(); b != "" || e != api.ErrRange {
			t.Error(i, len(b), e)
		}
	}
}

func TestSigOfBytesWanting(t *testing.T) {
	for _, index := range []byte{0, 63, 64, 255} { // ErrShort is ahead of ErrForm
		for path := 0; path <= api.MaxHeight; path++ {
			b := bytesOf(index, path)
			for n := range len(b) {
				noSigOf(t, api.ErrShort, b[:n])
			}
		}
		for _, path := range []int{7, 8, 255} {
			b := bytesOf(index, path)
			for n := range 562 + 16*api.MaxHeight {
				noSigOf(t, api.ErrShort, b[:n])
			}
			for n := 562 + 16*api.MaxHeight; n <= len(b); n++ {
				noSigOf(t, api.ErrForm, b[:n])
			}
			noSigOf(t, api.ErrForm, b+"x")
		}
	}
}

func TestSigOfBytesLeft(t *testing.T) {
	for path := 0; path <= api.MaxHeight; path++ {
		for _, more := range []string{"x", "\x00", open16, bytesOf(0, 0), strings.Repeat("x", 5000)} {
			for _, index := range []byte{0, 1, 63} {
				noSigOf(t, api.ErrLong, bytesOf(index, path)+more)
			}
			for _, index := range []byte{64, 65, 128, 255} { // ErrForm is ahead of ErrLong
				noSigOf(t, api.ErrForm, bytesOf(index, path)+more)
			}
		}
	}
}

func TestSigOfNoIndexAndNoPath(t *testing.T) {
	for index := range 256 {
		for path := range 256 {
			_, e := xmss.DecodeSig(bytesOf(byte(index), path))
			if may := index <= 63 && path <= api.MaxHeight; may != (e == api.OK) || !may && e != api.ErrForm {
				t.Fatal(index, path, e)
			}
		}
	}
}

func TestSigsShareNoMemory(t *testing.T) {
	b := bytesOf(5, 4)
	s, _ := xmss.DecodeSig(b)
	u, _ := xmss.DecodeSig(b)
	_ = append(s.Chains, "x")
	for i := range s.Chains {
		s.Chains[i] = "x"
	}
	if !slices.Equal(s.Path, texts(4, 'p')) {
		t.Error("a signature's lists share their memory")
	}
	for i := range s.Path {
		s.Path[i] = "x"
	}
	if !same(u, sigOf(5, 4)) {
		t.Error("two signatures share their memory")
	}
}

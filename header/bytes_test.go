package header_test

import (
	"encoding/binary"
	"math/rand"
	"strings"
	"testing"

	"plumbob/api"
	"plumbob/header"
)

// taken from the front of bytes: what is told by the words of layer 2.
type taken struct {
	rest string
	err  api.Errno
}

func (x *taken) fixed(n int) string {
	if x.err == api.OK && len(x.rest) < n {
		x.err = api.ErrShort
	}
	if x.err != api.OK {
		return strings.Repeat("\x00", n)
	}
	s := x.rest[:n]
	x.rest = x.rest[n:]
	return s
}

func (x *taken) text() string {
	n := int(binary.BigEndian.Uint16([]byte(x.fixed(2))))
	if x.err == api.OK && n > 4096 {
		x.err = api.ErrForm
	}
	return x.fixed(n)
}

// decoded by the chapter's words.
func decoded(s string) (header.Header, api.Errno) {
	var h header.Header
	x := &taken{rest: s}
	h.Epoch = uint64(binary.BigEndian.Uint32([]byte(x.fixed(4))))
	h.Parent = x.fixed(16)
	h.Depth = int(x.fixed(1)[0])
	if x.err != api.OK {
		return header.Header{}, x.err
	}
	if h.Depth > 4 {
		return header.Header{}, api.ErrRange
	}
	h.Auditors = int(x.fixed(1)[0])
	formed := true
	for range 1 << h.Depth {
		n := x.text()
		h.Nodes = append(h.Nodes, n)
		formed = formed && (n == "\x00" || len(n) == 17 && strings.ContainsAny(n[:1], "\x01\x02"))
	}
	switch {
	case x.err != api.OK:
		return header.Header{}, x.err
	case x.rest != "":
		return header.Header{}, api.ErrLong
	case h.Auditors > 64:
		return header.Header{}, api.ErrRange
	case !formed:
		return header.Header{}, api.ErrForm
	}
	return h, api.OK
}

// decode as the words have it; what is a header has these bytes, and no others.
func decode(t *testing.T, s string) {
	t.Helper()
	want, f := decoded(s)
	h, e := header.Decode(s)
	if e != f || !alike(h, want) {
		t.Fatalf("%.80q (%d bytes): %s %d, want %s %d", s, len(s), shown(h), e, shown(want), f)
	}
	if e != api.OK {
		return
	}
	if b, e := h.Encode(); b != s || e != api.OK {
		t.Fatalf("%.80q: back %.80q %d", s, b, e)
	}
}

// wrong bytes: the zero header, and that error.
func wrong(t *testing.T, s string, want api.Errno) {
	t.Helper()
	if h, e := header.Decode(s); e != want || !alike(h, header.Header{}) {
		t.Errorf("%.80q (%d bytes): %s %d, want %d", s, len(s), shown(h), e, want)
	}
}

// P19.1

func TestDecodeOfBytesWanting(t *testing.T) {
	for depth := range 5 {
		for _, auditors := range []int{5, 65, 255} { // ErrShort is ahead of ErrRange of Auditors
			for _, node := range []string{empty, "no node"} { // and ahead of ErrForm
				h := headerOf(depth)
				h.Auditors, h.Nodes[0] = auditors, node
				b := bytesOf(h)
				for n := range b {
					wrong(t, b[:n], api.ErrShort)
				}
			}
		}
	}
}

func TestDecodeOfBytesLeft(t *testing.T) {
	for depth := range 5 {
		for _, auditors := range []int{5, 65, 255} {
			for _, node := range []string{empty, "no node", ""} {
				h := headerOf(depth)
				h.Auditors, h.Nodes[0] = auditors, node
				b := bytesOf(h)
				for _, more := range []string{"x", "\x00", "\x00\x01\x00", b, strings.Repeat("x", 5000)} {
					wrong(t, b+more, api.ErrLong)
				}
			}
		}
	}
}

// As soon as it is read, whatever is behind it.
func TestDecodeOfADepthThatMayNotBe(t *testing.T) {
	b := bytesOf(headerOf(3))
	for depth := 5; depth < 256; depth++ {
		head := b[:20] + string([]byte{byte(depth)})
		for n := range head { // ahead of it nothing is known of it
			wrong(t, head[:n], api.ErrShort)
		}
		for n := 21; n <= len(b); n++ {
			wrong(t, head+b[21:n], api.ErrRange)
		}
		for _, more := range []string{"\xff", "\x05\xff\xff", b[21:] + "x", strings.Repeat("\x00", 5000)} {
			wrong(t, head+more, api.ErrRange)
		}
	}
}

func TestDecodeOfOtherParts(t *testing.T) {
	for depth := range 5 {
		for auditors := 65; auditors < 256; auditors++ {
			h := headerOf(depth)
			h.Auditors = auditors
			wrong(t, bytesOf(h), api.ErrRange)
			h.Nodes[0] = "no node" // ErrRange is ahead of ErrForm
			wrong(t, bytesOf(h), api.ErrRange)
		}
		for i := range 1 << depth {
			for _, node := range noNodes {
				h := headerOf(depth)
				h.Nodes[i] = node
				if len(node) <= 4096 {
					wrong(t, bytesOf(h), api.ErrForm)
				}
			}
		}
	}
}

// A length above MaxText is wrong as soon as it is read; one of MaxText is a Text, though no node.
func TestDecodeOfLongNodes(t *testing.T) {
	h := headerOf(1)
	for _, n := range []int{4097, 5000, 65535} {
		h.Nodes[0] = strings.Repeat("\x01", n)
		b := bytesOf(h)
		for _, s := range []string{b, b[:24], b[:25], b[:len(b)-1], b + "x"} {
			wrong(t, s, api.ErrForm)
		}
	}
	h.Nodes[0] = strings.Repeat("\x01", 4096)
	b := bytesOf(h)
	wrong(t, b, api.ErrForm)
	wrong(t, b[:24], api.ErrShort)
	wrong(t, b[:len(b)-1], api.ErrShort)
	wrong(t, b+"x", api.ErrLong)
}

func TestDecodeOfEachChangedByte(t *testing.T) {
	for depth := range 5 {
		b := []byte(bytesOf(headerOf(depth)))
		for i := range b {
			was := b[i]
			for x := range 256 {
				b[i] = byte(x)
				decode(t, string(b))
			}
			b[i] = was
		}
	}
}

func TestDecodeOfBytesByChance(t *testing.T) {
	r := rand.New(rand.NewSource(19))
	l := some()
	for range 20000 {
		b := []byte(bytesOf(l[r.Intn(len(l))]))
		for range 1 + r.Intn(4) {
			i := r.Intn(len(b))
			switch r.Intn(4) {
			case 0:
				b[i] = byte(r.Intn(256))
			case 1:
				b[i] = byte(r.Intn(6))
			case 2:
				b = b[:max(i, 1)]
			case 3:
				b = append(b, bytesOf(l[r.Intn(len(l))])[:i%20]...)
			}
		}
		decode(t, string(b))
	}
	for n := range 3000 {
		b := make([]byte, n%100)
		r.Read(b)
		decode(t, string(b))
		for i := range b {
			b[i] %= 3
		}
		decode(t, string(b))
	}
}

package entry_test

import (
	"crypto/sha256"
	"encoding/binary"
	"math"
	"slices"
	"strings"
	"testing"

	"plumbob/api"
	"plumbob/entry"
	"plumbob/xmss"
)

const (
	open16 = "0123456789abcdef"
	root16 = "\x00\xff234567890ABCDE"
	prev16 = "fedcba987654321\x80"
)

var noughts = strings.Repeat("\x00", 16)

// tagged by the library of Go's own.
func tagged(tag byte, l ...string) string {
	b := []byte{tag}
	for _, s := range l {
		b = binary.BigEndian.AppendUint32(b, uint32(len(s)))
		b = append(b, s...)
	}
	d := sha256.Sum256(b)
	return string(d[:16])
}

func publicOf(height int) xmss.Public {
	return xmss.Public{Open: open16, Root: root16, Height: height}
}

// bytesOf an entry, by the chapter's words.
func bytesOf(version uint32, height byte, prev string) string {
	return string(binary.BigEndian.AppendUint32(nil, version)) + open16 + root16 + string([]byte{height}) + prev
}

func entryOf(version uint64, prev string) entry.Entry {
	return entry.Entry{Version: version, Key: publicOf(2), Prev: prev}
}

// valueOf an entry of the key of height 2, by the chapter's words.
func valueOf(version uint32, prev string) string {
	return tagged(12, bytesOf(version, 2, prev))
}

var (
	versions   = []uint64{1, 2, 3, 127, 128, 255, 256, 257, 65535, 65536, 1 << 24, 1<<31 - 1, 1 << 31, 1<<32 - 2, 1<<32 - 1}
	noVersions = []uint64{0, 1 << 32, 1<<32 + 1, 1<<33 - 1, 1 << 40, 1<<63 - 1, 1 << 63, math.MaxUint64 - 1, math.MaxUint64}
)

// noPrevs haven't 16 bytes.
var noPrevs = []string{"", "x", prev16[1:], prev16 + "x", prev16 + prev16, strings.Repeat("x", 5000), strings.Repeat("ж", 16)}

// noKeys have no bytes.
func noKeys() []xmss.Public {
	l := []xmss.Public{{}, {Open: open16, Root: root16, Height: -1}, {Open: open16, Root: root16, Height: 7}, {Open: open16, Root: root16, Height: 256}}
	for _, x := range noPrevs {
		l = append(l, xmss.Public{Open: x, Root: root16}, xmss.Public{Open: open16, Root: x})
	}
	return l
}

// P17.1

func TestFirst(t *testing.T) {
	if entry.First != 1 {
		t.Error(entry.First)
	}
}

func TestName(t *testing.T) {
	seen := map[string]string{}
	for _, label := range []string{"", "a", "b", "alice", "Alice", "alice@example.org", "жук", "\x00", "\xff", strings.Repeat("a", 64), strings.Repeat("a", 65), strings.Repeat("long", 3000)} {
		name := entry.Name(label)
		if name != tagged(11, label) || len(name) != 16 {
			t.Errorf("%.20q: %q", label, name)
		}
		if other, ok := seen[name]; ok {
			t.Errorf("%.20q and %.20q have the same name", label, other)
		}
		seen[name] = label
	}
}

func TestEncodeAndDecode(t *testing.T) {
	for _, version := range versions {
		for height := 0; height <= api.MaxHeight; height++ {
			for _, prev := range []string{prev16, noughts, strings.Repeat("\xff", 16)} {
				x := entry.Entry{Version: version, Key: publicOf(height), Prev: prev}
				want := bytesOf(uint32(version), byte(height), prev)
				if b, e := x.Encode(); b != want || e != api.OK || len(b) != 53 {
					t.Errorf("%d %d: %q %d, want %q", version, height, b, e, want)
				}
				if y, e := entry.Decode(want); y != x || e != api.OK {
					t.Errorf("%d %d: %v %d", version, height, y, e)
				}
			}
		}
	}
}

func TestEncodeByHand(t *testing.T) {
	x := entry.Entry{Version: 0x01020304, Key: xmss.Public{Open: "oooooooooooooooo", Root: "rrrrrrrrrrrrrrrr", Height: 5}, Prev: "pppppppppppppppp"}
	want := "\x01\x02\x03\x04oooooooooooooooorrrrrrrrrrrrrrrr\x05pppppppppppppppp"
	if b, e := x.Encode(); b != want || e != api.OK {
		t.Errorf("%q %d", b, e)
	}
	if y, e := entry.Decode(want); y != x || e != api.OK {
		t.Errorf("%v %d", y, e)
	}
}

func TestKeyThatWasMade(t *testing.T) {
	k, e := xmss.New("seed", 1)
	if e != api.OK {
		t.Fatal(e)
	}
	x := entry.Entry{Version: 1, Key: k.Public(), Prev: noughts}
	b, e := x.Encode()
	y, f := entry.Decode(b)
	if e != api.OK || f != api.OK || y.Key != k.Public() {
		t.Error(e, f, y)
	}
}

// withoutBytes: neither bytes, nor a value.
func withoutBytes(t *testing.T, x entry.Entry, want api.Errno) {
	t.Helper()
	if b, e := x.Encode(); b != "" || e != want {
		t.Errorf("%d %.40v: %q %d, want %d", x.Version, x.Key, b, e, want)
	}
	if v := x.Value(); v != "" {
		t.Errorf("%d %.40v: value %q", x.Version, x.Key, v)
	}
}

func TestEntriesWithoutBytes(t *testing.T) {
	for _, version := range noVersions {
		withoutBytes(t, entryOf(version, prev16), api.ErrVersion)
		for _, key := range noKeys() { // ahead of the key's error, and of Prev's
			withoutBytes(t, entry.Entry{Version: version, Key: key, Prev: prev16}, api.ErrVersion)
			withoutBytes(t, entry.Entry{Version: version, Key: key, Prev: "x"}, api.ErrVersion)
		}
	}
	for _, version := range versions {
		for _, key := range noKeys() {
			withoutBytes(t, entry.Entry{Version: version, Key: key, Prev: prev16}, api.ErrRange)
		}
		for _, prev := range noPrevs {
			withoutBytes(t, entryOf(version, prev), api.ErrRange)
		}
	}
	withoutBytes(t, entry.Entry{}, api.ErrVersion)
	// As many bytes in all, but not each text its own.
	withoutBytes(t, entry.Entry{Version: 1, Key: xmss.Public{Open: open16, Root: root16 + "x", Height: 0}, Prev: prev16[1:]}, api.ErrRange)
}

func wrong(t *testing.T, b string, want api.Errno) {
	t.Helper()
	if x, e := entry.Decode(b); x != (entry.Entry{}) || e != want {
		t.Errorf("%.60q (%d bytes): %v %d, want %d", b, len(b), x, e, want)
	}
}

func TestDecodeOfWrongBytes(t *testing.T) {
	for _, version := range []uint32{0, 1, 1<<32 - 1} {
		for height := range 256 {
			b := bytesOf(version, byte(height), prev16)
			for n := range b { // layer 2's errors are ahead of layer 8's, and of ErrVersion
				wrong(t, b[:n], api.ErrShort)
			}
			for _, more := range []string{"x", "\x00", b, strings.Repeat("x", 5000)} {
				wrong(t, b+more, api.ErrLong)
			}
			switch {
			case height > api.MaxHeight: // ahead of ErrVersion
				wrong(t, b, api.ErrForm)
			case version == 0:
				wrong(t, b, api.ErrVersion)
			}
		}
	}
}

func TestValue(t *testing.T) {
	for _, version := range versions {
		for height := 0; height <= api.MaxHeight; height++ {
			x := entry.Entry{Version: version, Key: publicOf(height), Prev: prev16}
			if v := x.Value(); v != tagged(12, bytesOf(uint32(version), byte(height), prev16)) {
				t.Errorf("%d %d: %q", version, height, v)
			}
		}
	}
}

func TestValueOfOthers(t *testing.T) {
	x := entryOf(7, prev16)
	others := []entry.Entry{entryOf(8, prev16), entryOf(7, noughts), entryOf(7, prev16[1:]+"x")}
	for _, k := range []xmss.Public{publicOf(3), {Open: root16, Root: root16, Height: 2}, {Open: open16, Root: open16, Height: 2}, {Open: root16, Root: open16, Height: 2}} {
		others = append(others, entry.Entry{Version: 7, Key: k, Prev: prev16})
	}
	for _, y := range others {
		if y.Value() == x.Value() || len(y.Value()) != 16 {
			t.Errorf("%v: %q", y, y.Value())
		}
	}
}

// P17.2

func TestNext(t *testing.T) {
	for _, version := range versions {
		x := entryOf(version, prev16)
		value := valueOf(uint32(version), prev16)
		if e := x.Next(entryOf(version+1, value)); e != api.OK {
			t.Error(version, e)
		}
		for _, other := range []string{"", prev16, noughts, value[1:], value + "x", value[:15], "x" + value[1:], value[:15] + string([]byte{value[15] ^ 1}), tagged(11, bytesOf(uint32(version), 2, prev16))} {
			if e := x.Next(entryOf(version+1, other)); e != api.ErrRoot {
				t.Errorf("%d %q: %d", version, other, e)
			}
		}
		for _, next := range append([]uint64{version - 1, version, version + 2, version + 1<<32, version + 1 + 1<<32}, noVersions...) {
			if next == version+1 {
				continue
			}
			for _, prev := range []string{value, "x"} { // ErrVersion is ahead of ErrRoot
				if e := x.Next(entryOf(next, prev)); e != api.ErrVersion {
					t.Error(version, next, e)
				}
			}
		}
	}
}

// What follows needn't have bytes, what is ahead must.
func TestNextOfEntriesWithoutBytes(t *testing.T) {
	x := entryOf(1, noughts)
	for _, key := range noKeys() {
		if e := x.Next(entry.Entry{Version: 2, Key: key, Prev: x.Value()}); e != api.OK {
			t.Error(key, e)
		}
		y := entry.Entry{Version: 1, Key: key, Prev: noughts}
		for _, prev := range []string{"", noughts, x.Value()} {
			if e := y.Next(entryOf(2, prev)); e != api.ErrRoot {
				t.Errorf("%.40v %q: %d", key, prev, e)
			}
		}
	}
	for _, prev := range noPrevs {
		if e := entryOf(1, prev).Next(entryOf(2, "")); e != api.ErrRoot {
			t.Errorf("%.20q: %d", prev, e)
		}
	}
	for _, version := range noVersions {
		want := api.ErrRoot
		if version == math.MaxUint64 { // nothing is the next one behind it, 0 neither
			want = api.ErrVersion
		}
		for _, prev := range []string{"", noughts, prev16} {
			if e := entryOf(version, noughts).Next(entryOf(version+1, prev)); e != want {
				t.Errorf("%d: %d, want %d", version, e, want)
			}
		}
	}
	if e := (entry.Entry{}).Next(entry.Entry{}); e != api.ErrVersion {
		t.Error(e)
	}
	if e := (entry.Entry{}).Next(entry.Entry{Version: 1}); e != api.ErrRoot {
		t.Error(e)
	}
}

// historyOf so many entries, by the chapter's words.
func historyOf(n int) []entry.Entry {
	var l []entry.Entry
	prev := noughts
	for i := range n {
		key := xmss.Public{Open: open16, Root: root16[:15] + string([]byte{byte(i)}), Height: i % 7}
		l = append(l, entry.Entry{Version: uint64(i + 1), Key: key, Prev: prev})
		head := string(binary.BigEndian.AppendUint32(nil, uint32(i+1)))
		prev = tagged(12, head+key.Open+key.Root+string([]byte{byte(i % 7)})+prev)
	}
	return l
}

func TestHistory(t *testing.T) {
	if e := entry.History(); e != api.ErrNone {
		t.Error(e)
	}
	if e := entry.History([]entry.Entry{}...); e != api.ErrNone {
		t.Error(e)
	}
	all := historyOf(300)
	for n := 1; n <= len(all); n++ {
		if e := entry.History(all[:n]...); e != api.OK {
			t.Fatal(n, e)
		}
	}
	if !slices.Equal(all, historyOf(300)) {
		t.Error("changed")
	}
}

func history(t *testing.T, l []entry.Entry, want api.Errno, what string) {
	t.Helper()
	if e := entry.History(l...); e != want {
		t.Errorf("%s: %d, want %d", what, e, want)
	}
}

func TestHistoryOfNoFirstOne(t *testing.T) {
	all := historyOf(4)
	for _, version := range append([]uint64{2, 3, 1<<32 - 1}, noVersions...) {
		for _, prev := range []string{noughts, prev16, ""} { // ErrVersion is ahead of ErrRoot
			history(t, []entry.Entry{entryOf(version, prev)}, api.ErrVersion, "a version")
			history(t, append([]entry.Entry{entryOf(version, prev)}, all[1:]...), api.ErrVersion, "a version, ahead of others")
		}
	}
	for _, prev := range append([]string{prev16, all[0].Value(), noughts[1:], noughts + "\x00", noughts[1:] + "\x01", "\x01" + noughts[1:], strings.Repeat("0", 16)}, noPrevs...) {
		history(t, []entry.Entry{entryOf(1, prev)}, api.ErrRoot, "a Prev")
		history(t, []entry.Entry{entryOf(1, prev), entryOf(1, prev)}, api.ErrRoot, "a Prev, ahead of a version")
	}
	for n := 1; n < len(all); n++ {
		history(t, all[n:], api.ErrVersion, "the first one wanting")
	}
}

// Each change of a history is told, as the first thing that is wrong.
func TestHistoryThatWasChanged(t *testing.T) {
	const n = 6
	for i := range n {
		changed := func(f func(x *entry.Entry)) []entry.Entry {
			l := historyOf(n)
			f(&l[i])
			return l
		}
		history(t, changed(func(x *entry.Entry) { x.Version++ }), api.ErrVersion, "a version above")
		history(t, changed(func(x *entry.Entry) { x.Version-- }), api.ErrVersion, "a version below")
		history(t, changed(func(x *entry.Entry) { x.Prev = prev16 }), api.ErrRoot, "Prev")
		history(t, changed(func(x *entry.Entry) { x.Version++; x.Prev = prev16 }), api.ErrVersion, "both")
		want := api.ErrRoot
		if i == n-1 { // nobody tells its key
			want = api.OK
		}
		history(t, changed(func(x *entry.Entry) { x.Key.Height = (x.Key.Height + 1) % 7 }), want, "a key")
		history(t, changed(func(x *entry.Entry) { x.Key.Open = "" }), want, "a key without bytes")

		without := slices.Delete(historyOf(n), i, i+1)
		want = api.ErrVersion
		if i == n-1 {
			want = api.OK
		}
		history(t, without, want, "one left out")
		twice := slices.Insert(historyOf(n), i, historyOf(n)[i])
		history(t, twice, api.ErrVersion, "one twice")
	}
}

// The first fault is told, whatever comes behind it.
func TestHistoryTellsTheFirstFault(t *testing.T) {
	l := historyOf(5)
	l[2].Prev, l[3].Version = prev16, 9
	history(t, l, api.ErrRoot, "Prev ahead of a version")
	l = historyOf(5)
	l[2].Version, l[3].Prev = 9, prev16
	history(t, l, api.ErrVersion, "a version ahead of Prev")
	l = historyOf(5)
	l[0].Key.Height, l[2].Version = 9, 9
	history(t, l, api.ErrRoot, "a key without bytes ahead of a version")
	l = historyOf(5)
	l[0].Key.Height, l[1].Prev = 9, ""
	history(t, l, api.ErrRoot, "an empty Prev behind one without a value")
}

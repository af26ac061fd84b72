package item_test

import (
	"encoding/binary"
	"fmt"
	"math"
	"math/rand"
	"slices"
	"strconv"
	"strings"
	"testing"

	"plumbob/api"
	"plumbob/item"
)

var (
	num  = item.Num
	text = item.Text
	list = item.List
)

// noItems are values that no call of the package made.
func noItems() []item.Item {
	var none *int
	return []item.Item{
		nil, 0, 5, int64(5), uint64(5), "", "a", []byte("a"), []item.Item{}, []item.Item{num(1)}, []any{}, [1]int{}, 1.5, true,
		struct{}{}, none, new(int), func() {}, map[string]int{}, api.OK, [][]int{{1}},
	}
}

// nested is x in so many lists.
func nested(n int, x item.Item) item.Item {
	for range n {
		x = list(x)
	}
	return x
}

func many(n int, x item.Item) item.Item {
	return list(slices.Repeat([]item.Item{x}, n)...)
}

var numbers = []int64{0, 1, -1, 7, 255, 256, -256, 1 << 40, math.MaxInt64, math.MinInt64, math.MinInt64 + 1}

var texts = []string{"", "a", "ab", "\x00", "\xff", "жя", "a\"\\\n", strings.Repeat("x", api.MaxText), strings.Repeat("y", api.MaxText+1)}

// P4.1

func TestAsNumAndAsText(t *testing.T) {
	for _, n := range numbers {
		if got, ok := item.AsNum(num(n)); got != n || !ok {
			t.Error(n, got, ok)
		}
		if got, ok := item.AsText(num(n)); got != "" || ok {
			t.Error(n, got, ok)
		}
	}
	for _, s := range texts {
		if got, ok := item.AsText(text(s)); got != s || !ok {
			t.Errorf("%.10q: %.10q %v", s, got, ok)
		}
		if got, ok := item.AsNum(text(s)); got != 0 || ok {
			t.Errorf("%.10q: %d %v", s, got, ok)
		}
	}
	for _, x := range append(noItems(), list(), list(num(1)), list(text("a"))) {
		if got, ok := item.AsNum(x); got != 0 || ok {
			t.Errorf("%#v: %d %v", x, got, ok)
		}
		if got, ok := item.AsText(x); got != "" || ok {
			t.Errorf("%#v: %q %v", x, got, ok)
		}
	}
}

func TestLenAndAt(t *testing.T) {
	for _, n := range []int{0, 1, 2, 255, 256, 257, 10000} {
		var l []item.Item
		for i := range n {
			l = append(l, num(int64(i)))
		}
		x := list(l...)
		if got, ok := item.Len(x); got != n || !ok {
			t.Error(n, got, ok)
		}
		for i := range n {
			y, ok := item.At(x, i)
			if got, isNum := item.AsNum(y); !ok || !isNum || got != int64(i) {
				t.Fatal(n, i, got, ok)
			}
		}
		for _, i := range []int{-1, n, n + 1, -n - 1, math.MaxInt, math.MinInt} {
			if y, ok := item.At(x, i); y != nil || ok {
				t.Error(n, i, y, ok)
			}
		}
	}
	for _, x := range append(noItems(), num(3), text("abc")) {
		if got, ok := item.Len(x); got != 0 || ok {
			t.Errorf("%#v: %d %v", x, got, ok)
		}
		if y, ok := item.At(x, 0); y != nil || ok {
			t.Errorf("%#v: %v %v", x, y, ok)
		}
	}
}

func TestListKeepsAndChangesNothing(t *testing.T) {
	room := []item.Item{num(1), num(2), text("room")}
	l := room[:2]
	x := list(l...)
	l[0] = text("changed")
	if s := item.Show(x); s != "[1 2]" {
		t.Error(s)
	}
	if s, _ := item.AsText(room[2]); s != "room" {
		t.Error("the room behind the list was changed")
	}
	y := list(x, x)
	list(y)
	if item.Show(x) != "[1 2]" || item.Show(y) != "[[1 2] [1 2]]" {
		t.Error(item.Show(x), item.Show(y))
	}
}

func TestPath(t *testing.T) {
	x := list(num(5), text("a"), list(list(), list(num(6), text("b"))))
	for _, c := range []struct {
		places []int
		want   string
		e      api.Errno
	}{
		{nil, `[5 "a" [[] [6 "b"]]]`, api.OK}, {[]int{0}, "5", api.OK}, {[]int{1}, `"a"`, api.OK}, {[]int{2}, `[[] [6 "b"]]`, api.OK},
		{[]int{2, 0}, "[]", api.OK}, {[]int{2, 1}, `[6 "b"]`, api.OK}, {[]int{2, 1, 0}, "6", api.OK}, {[]int{2, 1, 1}, `"b"`, api.OK},
		{[]int{3}, "", api.ErrRange}, {[]int{-1}, "", api.ErrRange}, {[]int{math.MaxInt}, "", api.ErrRange}, {[]int{math.MinInt}, "", api.ErrRange},
		{[]int{2, 2}, "", api.ErrRange}, {[]int{2, 0, 0}, "", api.ErrRange}, {[]int{2, 1, 2}, "", api.ErrRange}, {[]int{3, 0}, "", api.ErrRange},
		{[]int{0, 0}, "", api.ErrType}, {[]int{1, 0}, "", api.ErrType}, {[]int{0, -1}, "", api.ErrType}, {[]int{2, 1, 0, 9}, "", api.ErrType},
		{[]int{2, 1, 1, 0, 0}, "", api.ErrType}, {[]int{2, -1, 1}, "", api.ErrRange}, {[]int{0, 9, 9}, "", api.ErrType},
	} {
		y, e := item.Path(x, c.places...)
		if e != c.e || item.Show(y) != c.want || e != api.OK && y != nil {
			t.Errorf("%v: %s %d, want %s %d", c.places, item.Show(y), e, c.want, c.e)
		}
	}
	for _, x := range []item.Item{num(1), text("abc")} {
		if y, e := item.Path(x); e != api.OK || !item.Same(x, y) {
			t.Error(y, e)
		}
		if y, e := item.Path(x, 0); e != api.ErrType || y != nil {
			t.Error(y, e)
		}
	}
	for _, x := range noItems() {
		for _, places := range [][]int{nil, {0}, {0, 0}, {-1}} {
			if y, e := item.Path(x, places...); e != api.ErrType || y != nil {
				t.Errorf("%#v %v: %v %d", x, places, y, e)
			}
		}
	}
}

// P4.2

func wantEncoded(t *testing.T, x item.Item, want string) {
	t.Helper()
	s, e := item.Encode(x)
	if s != want || e != api.OK {
		t.Errorf("%.40s: %.40x %d, want %.40x", item.Show(x), s, e, want)
	}
	y, e := item.Decode(want)
	if e != api.OK || !item.Same(x, y) || !item.Same(y, x) || item.Show(x) != item.Show(y) {
		t.Errorf("%.40x: %.40s %d, want %.40s", want, item.Show(y), e, item.Show(x))
	}
}

func TestBytes(t *testing.T) {
	wantEncoded(t, num(0), "\x01\x00\x00\x00\x00\x00\x00\x00\x00")
	wantEncoded(t, num(0x0102030405060708), "\x01\x01\x02\x03\x04\x05\x06\x07\x08")
	wantEncoded(t, num(-1), "\x01\xff\xff\xff\xff\xff\xff\xff\xff")
	wantEncoded(t, num(-2), "\x01\xff\xff\xff\xff\xff\xff\xff\xfe")
	wantEncoded(t, num(math.MaxInt64), "\x01\x7f\xff\xff\xff\xff\xff\xff\xff")
	wantEncoded(t, num(math.MinInt64), "\x01\x80\x00\x00\x00\x00\x00\x00\x00")
	wantEncoded(t, text(""), "\x02\x00\x00")
	wantEncoded(t, text("a\xff\x00"), "\x02\x00\x03a\xff\x00")
	long := strings.Repeat("ж", api.MaxText/2)
	wantEncoded(t, text(long), "\x02\x10\x00"+long)
	wantEncoded(t, list(), "\x03\x00\x00")
	wantEncoded(t, list(text("b"), list(), num(1)), "\x03\x00\x03\x02\x00\x01b\x03\x00\x00\x01\x00\x00\x00\x00\x00\x00\x00\x01")
	wantEncoded(t, list(list(text("b"), text("")), text("c")), "\x03\x00\x02\x03\x00\x02\x02\x00\x01b\x02\x00\x00\x02\x00\x01c")
	wantEncoded(t, many(api.MaxItems, text("")), "\x03\x01\x00"+strings.Repeat("\x02\x00\x00", api.MaxItems))
	wantEncoded(t, many(255, list()), "\x03\x00\xff"+strings.Repeat("\x03\x00\x00", 255))
	in := strings.Repeat("\x03\x00\x01", api.MaxDepth-1)
	wantEncoded(t, nested(api.MaxDepth-1, num(1)), in+"\x01\x00\x00\x00\x00\x00\x00\x00\x01")
	wantEncoded(t, nested(api.MaxDepth-1, text("a")), in+"\x02\x00\x01a")
	wantEncoded(t, nested(api.MaxDepth-1, list()), in+"\x03\x00\x00")
}

func TestEncodeErrors(t *testing.T) {
	long, wide := text(strings.Repeat("x", api.MaxText+1)), many(api.MaxItems+1, num(1))
	deep := nested(api.MaxDepth, num(1))
	for i, c := range []struct {
		x    item.Item
		want api.Errno
	}{
		{long, api.ErrLong}, {text(strings.Repeat("x", 1<<16)), api.ErrLong}, {text(strings.Repeat("x", 1<<17)), api.ErrLong},
		{wide, api.ErrCount}, {many(1<<16, num(1)), api.ErrCount}, {many(1<<17, list()), api.ErrCount},
		{deep, api.ErrArg}, {nested(api.MaxDepth, text("")), api.ErrArg}, {nested(api.MaxDepth, list()), api.ErrArg}, {nested(1000, num(1)), api.ErrArg},
		{list(num(1), list(), deep), api.ErrArg}, {list(nested(api.MaxDepth-1, list()), num(1)), api.ErrArg},
		{list(num(1), long), api.ErrLong}, {nested(api.MaxDepth-1, long), api.ErrLong}, {nested(api.MaxDepth-2, wide), api.ErrCount},
		{list(long, wide), api.ErrLong}, {list(wide, long), api.ErrCount}, {list(list(num(1), long), wide), api.ErrLong}, {list(num(1), list(wide), long), api.ErrCount},
		{many(api.MaxItems+1, long), api.ErrCount}, {many(api.MaxItems+1, wide), api.ErrCount},
		{list(long, wide, deep), api.ErrArg}, {many(api.MaxItems+1, deep), api.ErrArg}, {nested(api.MaxDepth, long), api.ErrArg}, {nested(api.MaxDepth-1, wide), api.ErrArg},
		{list(nil), api.ErrType}, {list(num(1), 5), api.ErrType}, {nested(api.MaxDepth-1, "a"), api.ErrType},
		{list(nil, long), api.ErrType}, {list(long, nil), api.ErrLong}, {many(api.MaxItems+1, nil), api.ErrCount}, {list(nil, deep), api.ErrArg},
	} {
		if s, e := item.Encode(c.x); s != "" || e != c.want {
			t.Errorf("%d: %d bytes, %d, want %d", i, len(s), e, c.want)
		}
	}
	for _, x := range noItems() {
		if s, e := item.Encode(x); s != "" || e != api.ErrType {
			t.Errorf("%#v: %x %d", x, s, e)
		}
	}
}

// decodeModel reads an item at a place by the words of the chapter: its text, and the place behind it.
func decodeModel(s string, at, depth int) (string, int, api.Errno) {
	if depth > api.MaxDepth {
		return "", 0, api.ErrForm
	}
	if at >= len(s) {
		return "", 0, api.ErrShort
	}
	kind := s[at]
	at++
	if kind == 1 {
		if len(s)-at < 8 {
			return "", 0, api.ErrShort
		}
		return strconv.FormatInt(int64(binary.BigEndian.Uint64([]byte(s[at:]))), 10), at + 8, api.OK
	}
	if kind != 2 && kind != 3 {
		return "", 0, api.ErrForm
	}
	if len(s)-at < 2 {
		return "", 0, api.ErrShort
	}
	n := int(s[at])<<8 | int(s[at+1])
	at += 2
	if kind == 2 && n > api.MaxText || kind == 3 && n > api.MaxItems {
		return "", 0, api.ErrForm
	}
	if kind == 2 {
		if len(s)-at < n {
			return "", 0, api.ErrShort
		}
		return showModel(s[at : at+n]), at + n, api.OK
	}
	var l []string
	for range n {
		x, next, e := decodeModel(s, at, depth+1)
		if e != api.OK {
			return "", 0, e
		}
		l, at = append(l, x), next
	}
	return "[" + strings.Join(l, " ") + "]", at, api.OK
}

func showModel(s string) string {
	shown := `"`
	for _, b := range []byte(s) {
		if b >= ' ' && b <= '~' && b != '"' && b != '\\' {
			shown += string(rune(b))
		} else {
			shown += fmt.Sprintf(`\x%02x`, b)
		}
	}
	return shown + `"`
}

func holdToModel(t *testing.T, s string) {
	t.Helper()
	want, end, wantErr := decodeModel(s, 0, 1)
	if wantErr == api.OK && end < len(s) {
		want, wantErr = "", api.ErrLong
	}
	x, e := item.Decode(s)
	if e != wantErr || item.Show(x) != want || e != api.OK && x != nil {
		t.Fatalf("%.60x: %.60s %d, want %.60s %d", s, item.Show(x), e, want, wantErr)
	}
	if e == api.OK {
		if again, e := item.Encode(x); again != s || e != api.OK {
			t.Fatalf("%.60x: %.60x %d", s, again, e)
		}
	}
}

func TestDecodeErrors(t *testing.T) {
	in, long := strings.Repeat("\x03\x00\x01", api.MaxDepth), strings.Repeat("x", 1<<16)
	for s, want := range map[string]api.Errno{
		"":                                 api.ErrShort,
		"\x00":                             api.ErrForm,
		"\x04":                             api.ErrForm,
		"\xff":                             api.ErrForm,
		"\x00\x00\x00":                     api.ErrForm,
		"\x01":                             api.ErrShort,
		"\x01\x00\x00\x00\x00\x00\x00\x00": api.ErrShort,
		"\x01\x00\x00\x00\x00\x00\x00\x00\x00\x00": api.ErrLong,
		"\x02":                                 api.ErrShort,
		"\x02\xff":                             api.ErrShort,
		"\x02\x00\x01":                         api.ErrShort,
		"\x02\x00\x00x":                        api.ErrLong,
		"\x02\x10\x00" + long[:4095]:           api.ErrShort,
		"\x02\x10\x00" + long[:4097]:           api.ErrLong,
		"\x02\x10\x01":                         api.ErrForm,
		"\x02\x10\x01" + long[:4097]:           api.ErrForm,
		"\x02\xff\xff" + long:                  api.ErrForm,
		"\x03":                                 api.ErrShort,
		"\x03\xff":                             api.ErrShort,
		"\x03\x00\x01":                         api.ErrShort,
		"\x03\x00\x01\x00":                     api.ErrForm,
		"\x03\x00\x00\x04":                     api.ErrLong,
		"\x03\x01\x00":                         api.ErrShort,
		"\x03\x01\x01":                         api.ErrForm,
		"\x03\xff\xff":                         api.ErrForm,
		"\x03\x00\x02\x02\x00\x00":             api.ErrShort,
		"\x03\x00\x02\x02\x00\x00\x09":         api.ErrForm,
		"\x03\x00\x02\x02\x00\x00\x02\x00\x00": api.OK,
		"\x03\x00\x02\x02\x00\x00\x02\x00\x00\x00": api.ErrLong,
		"\x03\x00\x02\x09\x02\xff\xff":             api.ErrForm,
		"\x03\x00\x02\x02\x00\x09a\x09":            api.ErrShort,
		in[:21] + "\x02\x00\x00":                   api.OK,
		in[:21] + "\x03\x00\x00":                   api.OK,
		in[:21]:                                    api.ErrShort,
		in:                                         api.ErrForm, // too deep, ahead of a first byte that is wanting
		in + "\x02\x00\x00":                        api.ErrForm,
		in + "\x03\x00\x00":                        api.ErrForm,
		in[:22]:                                    api.ErrShort,
		in[:23]:                                    api.ErrShort,
		in[:21] + "\x03\x01\x01":                   api.ErrForm,
		in[:21] + "\x03\x01\x00":                   api.ErrForm,
		"\x03\x00\x02" + in[:21] + "\x02\x00\x00" + "\x02\x00\x00":     api.ErrForm,
		"\x03\x00\x02" + in[:18] + "\x02\x00\x00" + "\x02\x00\x00":     api.OK,
		"\x03\x01\x00" + strings.Repeat("\x03\x00\x00", 256):           api.OK,
		"\x03\x01\x00" + strings.Repeat("\x03\x00\x00", 257):           api.ErrLong,
		"\x03\x01\x00" + strings.Repeat("\x03\x00\x00", 255):           api.ErrShort,
		"\x03\x01\x00" + strings.Repeat("\x03\x00\x00", 255) + "\x02":  api.ErrShort,
		"\x03\x01\x00" + strings.Repeat("\x03\x00\x00", 255) + "\xffx": api.ErrForm,
	} {
		x, e := item.Decode(s)
		if e != want || (e == api.OK) != (x != nil) {
			t.Errorf("%.40x (%d bytes): %.40s %d, want %d", s, len(s), item.Show(x), e, want)
		}
		holdToModel(t, s)
	}
}

// someItem by chance: of at most so many lists in one another.
func someItem(by *rand.Rand, depth int) item.Item {
	switch k := by.Intn(4); {
	case k == 0:
		return num(int64(by.Uint64()) >> by.Intn(64))
	case k == 1 || depth == 0:
		return text(strings.Repeat(string([]byte{byte(by.Intn(256))}), by.Intn(4)))
	}
	var l []item.Item
	for range by.Intn(4) {
		l = append(l, someItem(by, depth-1))
	}
	return list(l...)
}

// TestThereAndBack has bytes of items, all beginnings of them, and some with a byte that is another one.
func TestThereAndBack(t *testing.T) {
	by := rand.New(rand.NewSource(4))
	for range 3000 {
		x := someItem(by, api.MaxDepth-1)
		s, e := item.Encode(x)
		if e != api.OK {
			t.Fatal(item.Show(x), e)
		}
		if y, e := item.Decode(s); e != api.OK || !item.Same(x, y) {
			t.Fatal(item.Show(x), item.Show(y), e)
		}
		if len(s) > 300 {
			continue
		}
		for i := range s {
			holdToModel(t, s[:i])
			b := []byte(s)
			b[i] = byte(by.Intn(5))
			holdToModel(t, string(b))
		}
		holdToModel(t, s+"\x01")
	}
}

func TestDecodeOfShortBytes(t *testing.T) {
	l := []string{""}
	for range 6 {
		for _, s := range l {
			for _, b := range []string{"\x00", "\x01", "\x02", "\x03", "\x11"} {
				l = append(l, s+b)
			}
		}
		slices.Sort(l)
		l = slices.Compact(l)
	}
	for _, s := range l {
		holdToModel(t, s)
	}
}

func TestShow(t *testing.T) {
	for want, x := range map[string]item.Item{
		"0": num(0), "-7": num(-7), "9223372036854775807": num(math.MaxInt64), "-9223372036854775808": num(math.MinInt64),
		`""`: text(""), `"a b"`: text("a b"), `" ~!#[]/^"`: text(" ~!#[]/^"), `"\x22"`: text(`"`), `"\x5c"`: text(`\`), `"'"`: text("'"),
		`"\x1f \x7f~"`: text("\x1f \x7f~"), `"\xd0\xb6"`: text("ж"), `"\xff\x00\x80"`: text("\xff\x00\x80"), `"\x5cx41"`: text(`\x41`), `"\x0a\x09"`: text("\n\t"),
		"[]": list(), "[[]]": list(list()), "[[] []]": list(list(), list()), `[1 "a"]`: list(num(1), text("a")),
		`[1 [2 [3] 4] "" [] 5]`: list(num(1), list(num(2), list(num(3)), num(4)), text(""), list(), num(5)),
		`["[" "1 2" " "]`:       list(text("["), text("1 2"), text(" ")),
		"[[[1]] 2]":             list(list(list(num(1))), num(2)),
	} {
		if got := item.Show(x); got != want {
			t.Errorf("%s, want %s", got, want)
		}
	}
	for i := range 256 {
		s := string([]byte{byte(i)})
		if got, want := item.Show(list(text(s))), "["+showModel(s)+"]"; got != want {
			t.Errorf("%s, want %s", got, want)
		}
	}
	for _, x := range noItems() {
		if got := item.Show(x); got != "" {
			t.Errorf("%#v: %s", x, got)
		}
	}
	if got := item.Show(many(1000, list(num(1)))); got != "["+strings.Repeat("[1] ", 999)+"[1]]" {
		t.Errorf("%.40s", got)
	}
}

// P4.3

func TestNums(t *testing.T) {
	for _, want := range [][]int64{nil, {1}, {3, 1, 2}, numbers, slices.Repeat([]int64{-4}, 1000)} {
		var l []item.Item
		for _, n := range want {
			l = append(l, num(n))
		}
		x := list(l...)
		got, e := item.Nums(x)
		if e != api.OK || !slices.Equal(got, want) {
			t.Errorf("%v %d, want %v", got, e, want)
		}
		if len(got) > 0 {
			got[0]++
			if again, _ := item.Nums(x); !slices.Equal(again, want) {
				t.Errorf("%v, want %v", again, want)
			}
		}
	}
	for _, x := range append(noItems(),
		num(1), text("1"), list(text("1")), list(list()), list(list(num(1))), list(num(1), num(2), text("")), list(text(""), num(1)),
		list(num(1), list(num(1)), num(1)), list(nil), list(num(1), nil), list(5), list(int64(5), num(1))) {
		if got, e := item.Nums(x); len(got) != 0 || e != api.ErrType {
			t.Errorf("%#v: %v %d", x, got, e)
		}
	}
}

// TestSame holds each of some items against each: they are the same at the same place alone.
func TestSame(t *testing.T) {
	all := func() []item.Item {
		return []item.Item{
			num(0), num(1), num(-1), num(math.MaxInt64), num(math.MinInt64),
			text(""), text("0"), text("1"), text("a"), text("A"), text("\xff"), text("\x00"), text("aa"), text(strings.Repeat("a", 5000)),
			list(), list(num(0)), list(num(1)), list(text("")), list(text("1")), list(list()), list(list(), list()), list(list(list())),
			list(num(1), num(2)), list(num(2), num(1)), list(num(1), num(2), num(3)), list(num(1), text("2")), list(list(num(1), num(2))),
			list(list(num(1)), num(2)), list(num(1), list(num(2))), list(list(num(1)), list(num(2))), many(300, num(1)), many(301, num(1)),
			nested(20, num(1)), nested(20, num(2)), nested(21, num(1)), nested(20, list()), nested(20, list(num(1), num(1))), nested(20, list(num(1), num(2))),
		}
	}
	for i, x := range all() {
		for j, y := range all() {
			if got := item.Same(x, y); got != (i == j) {
				t.Errorf("%.40s, %.40s: %v", item.Show(x), item.Show(y), got)
			}
		}
		if !item.Same(x, x) {
			t.Errorf("%.40s: not the same as itself", item.Show(x))
		}
	}
	for _, x := range noItems() {
		for _, y := range append(noItems(), num(0), num(5), text(""), text("a"), list(), list(num(1))) {
			if item.Same(x, y) || item.Same(y, x) || item.Same(list(x), list(y)) || item.Same(list(num(1), y), list(num(1), x)) {
				t.Errorf("%#v, %#v: the same", x, y)
			}
		}
	}
}

// TestDeepLists has lists in lists, deeper than calls nest well.
func TestDeepLists(t *testing.T) {
	const deep = 3000000
	x, y := nested(deep, list(num(1), text("a"))), nested(deep, list(num(1), text("a")))
	if !item.Same(x, y) || item.Same(x, list(y)) || item.Same(x, nested(deep, list(num(1), text("b")))) {
		t.Error("Same")
	}
	if s := item.Show(x); s != strings.Repeat("[", deep+1)+`1 "a"`+strings.Repeat("]", deep+1) {
		t.Errorf("%.40s", s)
	}
	if _, e := item.Encode(x); e != api.ErrArg {
		t.Error(e)
	}
	if y, e := item.Path(x, make([]int, deep+1)...); e != api.OK || item.Show(y) != "1" {
		t.Error(e)
	}
	if _, e := item.Path(x, make([]int, deep+2)...); e != api.ErrType {
		t.Error(e)
	}
	if _, e := item.Nums(x); e != api.ErrType {
		t.Error(e)
	}
	if s, e := item.Decode(strings.Repeat("\x03\x00\x01", deep)); s != nil || e != api.ErrForm {
		t.Error(e)
	}
}

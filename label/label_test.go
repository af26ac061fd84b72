package label_test

import (
	"slices"
	"strings"
	"testing"
	"unicode/utf8"

	"plumbob/api"
	"plumbob/label"
)

var capitalRanges = []struct {
	first, last rune
	bit         int
}{
	{'A', 'Z', label.Latin},
	{0x0391, 0x03A9, label.Greek},
	{0x0410, 0x042F, label.Cyrillic},
}

func wantSmall(r rune) rune {
	for _, c := range capitalRanges {
		if r >= c.first && r <= c.last && r != 0x03A2 {
			return r + 32
		}
	}
	return r
}

func wantAlphabet(r rune) int {
	for _, c := range capitalRanges {
		if wantSmall(r) >= c.first+32 && wantSmall(r) <= c.last+32 {
			return c.bit
		}
	}
	return 0
}

// eachRune calls f with each rune that UTF-8 has.
func eachRune(f func(r rune)) {
	for r := rune(0); r <= utf8.MaxRune; r++ {
		if utf8.ValidRune(r) {
			f(r)
		}
	}
}

// noUTF8 are texts that aren't UTF-8, each in its own way.
var noUTF8 = []string{
	"\xff", "a\x80", "\xc3", "a\xe2\x82", "\xf0\x9f\x98", // strays, and runes that are cut off
	"\xc0\xaf", "\xe0\x80\xaf", "\xf0\x80\x80\xaf", // longer than need be
	"\xed\xa0\x80", "\xed\xbf\xbf", // surrogates
	"\xf4\x90\x80\x80", "\xf8\x88\x80\x80\x80", // above the last rune
	"alice\xc3.example", "\xfealice",
}

func TestBits(t *testing.T) {
	if label.Latin != 1 || label.Greek != 2 || label.Cyrillic != 4 {
		t.Error(label.Latin, label.Greek, label.Cyrillic)
	}
}

// P1.1

func TestRunes(t *testing.T) {
	for s, want := range map[string]int{
		"": 0, "a": 1, "alice": 5, "жя": 2, "αβγ.": 4, "€": 1, "a\U0001F600b": 3, "\x00": 1,
		"\uFFFD": 1, "\U0010FFFF": 1, "\uD7FF\uE000": 2, "e\u0301": 2, strings.Repeat("ж", 5000): 5000,
	} {
		if n, ok := label.Runes(s); n != want || !ok {
			t.Errorf("Runes(%q): %d %v, want %d", s, n, ok, want)
		}
	}
	for _, s := range noUTF8 {
		if n, ok := label.Runes(s); n != 0 || ok {
			t.Errorf("Runes(%q): %d %v", s, n, ok)
		}
	}
}

func TestSmall(t *testing.T) {
	for r, want := range map[rune]rune{
		'A': 'a', 'Z': 'z', '@': '@', '[': '[', '`': '`', '{': '{', 'a': 'a', 'z': 'z', '0': '0',
		0x0390: 0x0390, 0x0391: 0x03B1, 0x03A1: 0x03C1, 0x03A2: 0x03A2, 0x03A3: 0x03C3, 0x03A9: 0x03C9, 0x03AA: 0x03AA,
		0x03B1: 0x03B1, 0x03C2: 0x03C2, 0x03C9: 0x03C9,
		0x0401: 0x0401, 0x040F: 0x040F, 0x0410: 0x0430, 0x042F: 0x044F, 0x0430: 0x0430, 0x044F: 0x044F, 0x0451: 0x0451,
		0x00C9: 0x00C9, 0x212A: 0x212A, 0: 0, -1: -1, 0xD800: 0xD800, 0x7FFFFFFF: 0x7FFFFFFF, -0x80000000: -0x80000000,
	} {
		if got := label.Small(r); got != want {
			t.Errorf("Small(%#x): %#x, want %#x", r, got, want)
		}
	}
	for r := rune(-70000); r <= 0x120000; r++ {
		if got := label.Small(r); got != wantSmall(r) {
			t.Fatalf("Small(%#x): %#x, want %#x", r, got, wantSmall(r))
		}
	}
}

func TestAlphabets(t *testing.T) {
	for s, want := range map[string]int{
		"": 0, "123": 0, ".-_@": 0, "a": 1, "Z": 1, "aZz": 1, "β": 2, "Ω": 2, "ς": 2, "ж": 4, "Я": 4,
		"aβ": 3, "aж": 5, "βж": 6, "жβa": 7, "a.β-ж@1": 7, "é": 0, "ё": 0, "\u03a2": 0, "\u0390": 0, " ": 0,
		"a\xff": 1, "я\xc3": 4,
	} {
		if got := label.Alphabets(s); got != want {
			t.Errorf("Alphabets(%q): %d, want %d", s, got, want)
		}
	}
	eachRune(func(r rune) {
		if got := label.Alphabets(string(r)); got != wantAlphabet(r) {
			t.Fatalf("Alphabets(%q): %d, want %d", string(r), got, wantAlphabet(r))
		}
	})
}

// P1.2

func TestNormal(t *testing.T) {
	for s, want := range map[string]string{
		"Alice@Example.org": "alice@example.org", "alice": "alice", "A": "a", "7": "7", "2024": "2024",
		"Жук": "жук", "ЖУК.Example.ΩΜΕΓΑ": "жук.example.ωμεγα", "ΑΒΩ-1": "αβω-1", "ΟΔΟΣ": "οδοσ", "οδος": "οδος",
		"a.b-c_d@e": "a.b-c_d@e", "a1.1ж-2_β": "a1.1ж-2_β", "a@ж": "a@ж", "AZaz09": "azaz09", "АЯая": "аяая",
		strings.Repeat("a", 64):                    strings.Repeat("a", 64),
		strings.Repeat("Ж", 64):                    strings.Repeat("ж", 64),
		strings.Repeat("a.", 31) + "bc":            strings.Repeat("a.", 31) + "bc",
		"\u0391\u03A1\u03A3\u03A9\u03B1\u03C9":     "\u03B1\u03C1\u03C3\u03C9\u03B1\u03C9",
		"\u0410\u042F":                             "\u0430\u044F",
		"0@" + strings.Repeat("1", api.MaxLabel-2): "0@" + strings.Repeat("1", api.MaxLabel-2),
	} {
		if got, e := label.Normal(s); got != want || e != api.OK {
			t.Errorf("Normal(%q): %q %d, want %q", s, got, e, want)
		}
		if got, e := label.Normal(want); got != want || e != api.OK {
			t.Errorf("Normal(%q), its own normal form: %q %d", want, got, e)
		}
	}
}

func TestNormalOfWrongOnes(t *testing.T) {
	bad := func(want api.Errno, l ...string) {
		for _, s := range l {
			if got, e := label.Normal(s); got != "" || e != want {
				t.Errorf("Normal(%q): %q %d, want %d", s, got, e, want)
			}
		}
	}
	bad(api.ErrRune, "")
	for _, p := range []string{".", "-", "_", "@"} {
		bad(api.ErrRune, p, p+"a", "a"+p)
		for _, q := range []string{".", "-", "_", "@"} {
			bad(api.ErrRune, "a"+p+q+"b")
		}
	}
	bad(api.ErrRune, "a@b@c", "a@b.c@d", "aж", "жa", "Aж", "aЖ", "aβ", "βж", "a1ж", "x.aж", "aж.x", "x.aж.x", "ab.aж-c", "a\u0430", "o\u03BF")
	bad(api.ErrRune, "a b", " a", "a ", "é", "ё", "Ё", "a\x00", "a\n", "a+b", "a/b", "a:b", "[a", "`a", "{a", "\u03a2", "\uFFFD", "\u0663", "\uFF11", "\uFF41", "e\u0301", "\uFEFFa")
	bad(api.ErrRune, strings.Repeat(".", 64), strings.Repeat("a", 63)+".", strings.Repeat("a", 63)+"ж")
	bad(api.ErrLong, strings.Repeat("a", 65), strings.Repeat("ж", 65), strings.Repeat(" ", 65), strings.Repeat(".", 65), strings.Repeat("a", 100000))
	bad(api.ErrForm, noUTF8...)
	bad(api.ErrForm, strings.Repeat("a", 65)+"\xff", "\xff"+strings.Repeat("a", 65), strings.Repeat("\xff", 65), " \xff", "\x80.")
}

// TestNormalOfEachRune has each rune alone, and between two Latin letters.
func TestNormalOfEachRune(t *testing.T) {
	eachRune(func(r rune) {
		digit := r >= '0' && r <= '9'
		alone, e := label.Normal(string(r))
		if may := digit || wantAlphabet(r) != 0; may != (e == api.OK) || may && alone != string(wantSmall(r)) {
			t.Fatalf("Normal(%q): %q %d", string(r), alone, e)
		}
		between, e := label.Normal("x" + string(r) + "y")
		may := digit || wantAlphabet(r) == label.Latin || strings.ContainsRune(".-_@", r)
		if may != (e == api.OK) || may && between != "x"+string(wantSmall(r))+"y" {
			t.Fatalf("Normal(%q): %q %d", "x"+string(r)+"y", between, e)
		}
	})
}

// TestNormalOfShortOnes holds all texts of up to four of some runes against the words of the chapter.
func TestNormalOfShortOnes(t *testing.T) {
	l := []string{""}
	for range 4 {
		for _, s := range l {
			for _, r := range "aBΩж7.@ " {
				l = append(l, s+string(r))
			}
		}
		slices.Sort(l)
		l = slices.Compact(l)
	}
	for _, s := range l {
		want, wantErr := "", api.ErrRune
		if mayBe(s) {
			want, wantErr = strings.NewReplacer("B", "b", "Ω", "ω").Replace(s), api.OK
		}
		if got, e := label.Normal(s); got != want || e != wantErr {
			t.Fatalf("Normal(%q): %q %d, want %q %d", s, got, e, want, wantErr)
		}
	}
}

// mayBe tells which texts of the runes of TestNormalOfShortOnes are labels that may be.
func mayBe(s string) bool {
	if strings.Contains(s, " ") || strings.Count(s, "@") > 1 {
		return false
	}
	for _, part := range strings.FieldsFunc("|"+s+"|", func(r rune) bool { return r == '.' || r == '@' }) {
		n := 0
		for _, letters := range []string{"aB", "Ω", "ж"} {
			if strings.ContainsAny(part, letters) {
				n++
			}
		}
		if n > 1 {
			return false
		}
	}
	framed := strings.ReplaceAll("."+s+".", "@", ".")
	return !strings.Contains(framed, "..")
}

// P1.3

func TestParts(t *testing.T) {
	for s, want := range map[string][]string{
		"": {""}, "a": {"a"}, "alice@example.org": {"alice", "example", "org"}, "a.b-c_d@e": {"a", "b", "c", "d", "e"},
		".": {"", ""}, "..": {"", "", ""}, "-a": {"", "a"}, "a_": {"a", ""}, "a.@b": {"a", "", "b"}, "@-_.": {"", "", "", "", ""},
		"ж.Ω-a1": {"ж", "Ω", "a1"}, "a b+c": {"a b+c"}, "A.É": {"A", "É"}, "\xff.a\x80": {"\xff", "a\x80"}, "\xc3.\xe2-": {"\xc3", "\xe2", ""},
	} {
		if got := label.Parts(s); !slices.Equal(got, want) {
			t.Errorf("Parts(%q): %q, want %q", s, got, want)
		}
	}
	eachRune(func(r rune) {
		n := 1
		if strings.ContainsRune(".-_@", r) {
			n = 2
		}
		if got := label.Parts(string(r)); len(got) != n {
			t.Fatalf("Parts(%q): %q", string(r), got)
		}
	})
}

func TestPartsAreNew(t *testing.T) {
	s := "a.b"
	label.Parts(s)[0] = "x"
	if got := label.Parts(s); !slices.Equal(got, []string{"a", "b"}) {
		t.Error(got)
	}
}

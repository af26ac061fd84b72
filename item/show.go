package item

import (
	"strconv"
	"strings"
)

const hexDigits = "0123456789abcdef"

// Show an item as text.
func Show(x Item) string {
	var s shower
	s.begin(x)
	for len(s.open) > 0 {
		s.next()
	}
	return s.b.String()
}

// A shower keeps the lists that it is in, the outermost first: they may be
// deeper than calls may nest.
type shower struct {
	b    strings.Builder
	open []openList
}

type openList struct {
	items []Item
	shown int
}

// begin an item: of a list no more than its bracket.
func (s *shower) begin(x Item) {
	switch v := x.(type) {
	case number:
		s.b.WriteString(strconv.FormatInt(int64(v), 10))
	case text:
		s.quote(string(v))
	case *list:
		s.b.WriteByte('[')
		s.open = append(s.open, openList{items: v.items})
	}
}

// next of the innermost list: the item that isn't shown yet, or its end.
func (s *shower) next() {
	last := len(s.open) - 1
	l := &s.open[last]
	if l.shown == len(l.items) {
		s.b.WriteByte(']')
		s.open = s.open[:last]
		return
	}
	if l.shown > 0 {
		s.b.WriteByte(' ')
	}
	l.shown++
	s.begin(l.items[l.shown-1])
}

func (s *shower) quote(t string) {
	s.b.WriteByte('"')
	for i := range len(t) {
		if standsForItself(t[i]) {
			s.b.WriteByte(t[i])
			continue
		}
		s.b.WriteString(`\x`)
		s.b.WriteByte(hexDigits[t[i]>>4])
		s.b.WriteByte(hexDigits[t[i]&0xF])
	}
	s.b.WriteByte('"')
}

func standsForItself(b byte) bool {
	return b >= 0x20 && b <= 0x7E && b != '"' && b != '\\'
}

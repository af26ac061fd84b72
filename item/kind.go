package item

import (
	"plumbob/api"
	"plumbob/octet"
)

// The types of items aren't exported: so nobody else makes or changes one.
type (
	number int64
	text   string
	list   struct {
		items []Item // nil, where what was handed in is none
		depth int    // kept: lists may be deeper than calls may nest
	}
)

func isItem(x Item) bool {
	switch x.(type) {
	case number, text, *list:
		return true
	}
	return false
}

func numberOf(x Item) (number, bool) {
	n, ok := x.(number)
	return n, ok
}

func textOf(x Item) (text, bool) {
	s, ok := x.(text)
	return s, ok
}

func itemsOf(x Item) ([]Item, bool) {
	l, ok := x.(*list)
	if !ok {
		return nil, false
	}
	return l.items, true
}

func depthOf(x Item) int {
	if l, ok := x.(*list); ok {
		return l.depth
	}
	return 1
}

func itemAt(x Item, i int) (Item, api.Errno) {
	l, ok := itemsOf(x)
	if !ok {
		return nil, api.ErrType
	}
	if i < 0 || i >= len(l) {
		return nil, api.ErrRange
	}
	if l[i] == nil {
		return nil, api.ErrType
	}
	return l[i], api.OK
}

// alike holds two items against one another, but for what is in two lists.
func alike(x, y Item) bool {
	switch a := x.(type) {
	case number:
		b, ok := numberOf(y)
		return ok && a == b
	case text:
		b, ok := textOf(y)
		return ok && a == b
	case *list:
		b, ok := itemsOf(y)
		return ok && len(a.items) == len(b)
	}
	return false
}

// mustItems panics of what is no list.
func mustItems(x Item) []Item {
	l, ok := itemsOf(x)
	if !ok {
		panic(api.ErrType)
	}
	return l
}

// mustNum panics of what is no number.
func mustNum(x Item) int64 {
	n, ok := numberOf(x)
	if !ok {
		panic(api.ErrType)
	}
	return int64(n)
}

// write an item that isn't too deep.
func write(w *octet.Writer, x Item) api.Errno {
	switch v := x.(type) {
	case number:
		w.Num(kindNum, kindSize).Num(uint64(v), numSize)
	case text:
		if len(v) > api.MaxText {
			return api.ErrLong
		}
		w.Num(kindText, kindSize).Text(string(v))
	case *list:
		if len(v.items) > api.MaxItems {
			return api.ErrCount
		}
		w.Num(kindList, kindSize).Num(uint64(len(v.items)), countSize)
		for _, y := range v.items {
			if e := write(w, y); e != api.OK {
				return e
			}
		}
	default:
		return api.ErrType
	}
	return api.OK
}

// read the next item, that is as deep as that in the whole one.
func read(r *octet.Reader, depth int) (Item, api.Errno) {
	if depth > api.MaxDepth {
		return nil, api.ErrForm
	}
	kind := r.Num(kindSize)
	if e := broken(r); e != api.OK {
		return nil, e
	}
	switch kind {
	case kindNum:
		n := r.Num(numSize)
		return Num(int64(n)), broken(r)
	case kindText:
		s := r.Text()
		return Text(s), broken(r)
	case kindList:
		return readList(r, depth)
	}
	return nil, api.ErrForm
}

func readList(r *octet.Reader, depth int) (Item, api.Errno) {
	n := r.Num(countSize)
	if e := broken(r); e != api.OK {
		return nil, e
	}
	if n > api.MaxItems {
		return nil, api.ErrForm
	}
	var l []Item
	for range n {
		x, e := read(r, depth+1)
		if e != api.OK {
			return nil, e
		}
		l = append(l, x)
	}
	return List(l...), api.OK
}

// broken: what was wrong so far; bytes that are left are none of it.
func broken(r *octet.Reader) api.Errno {
	if e := r.End(); e != api.ErrLong {
		return e
	}
	return api.OK
}

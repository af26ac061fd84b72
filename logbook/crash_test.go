package logbook_test

import (
	"math/rand"
	"slices"
	"testing"

	"plumbob/api"
	"plumbob/logbook"
	"plumbob/sector"
)

// P10.3

// step: a Put or a Compact.
type step struct {
	compacts bool
	record   string
}

func (x step) call(b *logbook.Book) api.Errno {
	if x.compacts {
		return b.Compact(x.record)
	}
	return b.Put(x.record)
}

// behind a step without an error the records are these.
func (x step) behind(records []string) []string {
	if x.compacts {
		return []string{x.record}
	}
	return append(slices.Clone(records), x.record)
}

func started(t *testing.T, steps []step) (*sector.Disk, []string) {
	t.Helper()
	d := disk(t, 30)
	var records []string
	b := open(t, d, 5, 20)
	for _, x := range steps {
		if e := x.call(b); e != api.OK {
			t.Fatal(e)
		}
		records = x.behind(records)
	}
	return d, records
}

// broken: the step with its power failing behind so many calls; then what a book has is what it had, or the step's.
func broken(t *testing.T, d *sector.Disk, x step, fuse int, keep []uint8, had []string) (now []string, done bool) {
	t.Helper()
	b := open(t, d, 5, 20)
	d.Fuse(fuse, keep...)
	if e := x.call(b); e != api.ErrPower {
		t.Fatal(fuse, e)
	}
	d.Start()
	now = open(t, d, 5, 20).Records()
	done = slices.Equal(now, x.behind(had))
	if !done && !slices.Equal(now, had) {
		t.Fatalf("fuse %d, keep %d: %.60q, neither %.60q nor %.60q", fuse, keep, now, had, x.behind(had))
	}
	return now, done
}

// keeps: each choice of n counts.
func keeps(n int, of []uint8) [][]uint8 {
	all := [][]uint8{nil}
	for range n {
		var more [][]uint8
		for _, l := range all {
			for _, k := range of {
				more = append(more, append(slices.Clone(l), k))
			}
		}
		all = more
	}
	return all
}

func TestWhereverThePowerFails(t *testing.T) {
	starts := [][]step{
		nil,
		{{false, "a"}},
		{{false, text(120)}, {false, "b"}},
		{{true, text(100)}, {false, "b"}},
		{{false, text(120)}, {false, "b"}, {true, "c"}, {false, text(77)}},
		{{false, text(300)}, {true, text(301)}, {true, text(100)}},
	}
	for i, start := range starts {
		for _, compacts := range []bool{false, true} {
			for parts := 1; parts <= 3; parts++ {
				x := step{compacts, text(39*parts - 5)}
				for fuse := range parts + 1 {
					for _, keep := range keeps(fuse, []uint8{0, 3, 20, 55, 56, 60, 63, 64}) {
						d, had := started(t, start)
						now, done := broken(t, d, x, fuse, keep, had)
						whole := fuse == parts && !slices.ContainsFunc(keep, func(k uint8) bool { return k < 64 })
						if whole && !done || fuse < parts && done {
							t.Errorf("start %d, fuse %d, keep %d: done: %t", i, fuse, keep, done)
						}
						goesOn(t, d, now)
					}
				}
			}
		}
	}
}

// goesOn: a book on a disk whose power failed takes more.
func goesOn(t *testing.T, d *sector.Disk, records []string) {
	t.Helper()
	for _, x := range []step{{false, "x"}, {false, "y"}, {true, "z"}, {false, text(60)}} {
		b := open(t, d, 5, 20)
		e := x.call(b)
		if e == api.ErrFull && !x.compacts {
			continue
		}
		if e != api.OK {
			t.Fatal(e)
		}
		records = x.behind(records)
		if now := open(t, d, 5, 20).Records(); !slices.Equal(now, records) || !slices.Equal(b.Records(), records) {
			t.Fatalf("%.60q, want %.60q", now, records)
		}
	}
}

// someStep, of few records, so that what is left of a broken one is like what comes next.
func someStep(r *rand.Rand) step {
	return step{r.Intn(4) == 0, text(r.Intn(4) * 50)}
}

func someKeep(r *rand.Rand) []uint8 {
	keep := make([]uint8, r.Intn(6))
	for i := range keep {
		keep[i] = []uint8{0, 0, 64, 64, 64, 200, uint8(r.Intn(64))}[r.Intn(7)]
	}
	return keep
}

func TestThePowerFailsAgainAndAgain(t *testing.T) {
	r := rand.New(rand.NewSource(10))
	undone, done := 0, 0
	for range 400 {
		d, records := started(t, nil)
		for range 60 {
			x := someStep(r)
			parts := logbook.Parts(len(x.record))
			if b := open(t, d, 5, 20); !x.compacts && b.Left() < parts {
				continue
			}
			if r.Intn(3) > 0 {
				now, did := broken(t, d, x, r.Intn(parts+1), someKeep(r), records)
				records = now
				if did {
					done++
				} else {
					undone++
				}
				continue
			}
			b := open(t, d, 5, 20)
			if e := x.call(b); e != api.OK {
				t.Fatal(e)
			}
			records = x.behind(records)
			d.Cut(someKeep(r)...)
			d.Start()
			has(t, open(t, d, 5, 20), b.Left(), records...)
		}
	}
	if undone < 1000 || done < 200 {
		t.Error("too little was tried:", undone, done)
	}
}

// Parts of a broken record that were kept are none of the one that is put in its place.
func TestWhatIsLeftOfABrokenRecord(t *testing.T) {
	for first := range 4 { // the one part of four that isn't kept
		for second := range 4 {
			d, had := started(t, []step{{false, "a"}})
			keep := func(lost int) []uint8 {
				k := []uint8{64, 64, 64, 64}
				k[lost] = 0
				return k
			}
			if now, _ := broken(t, d, step{false, text(150)}, 4, keep(first), had); !slices.Equal(now, had) {
				t.Error(first, now)
			}
			if now, _ := broken(t, d, step{false, text(151)}, 4, keep(second), had); !slices.Equal(now, had) {
				t.Error(first, second, now)
			}
			now, done := broken(t, d, step{false, text(151)}, 4, keep((second+1)%4), had)
			if !done || !slices.Equal(now, []string{"a", text(151)}) {
				t.Error(first, second, "the same one's parts make it whole")
			}
			goesOn(t, d, now)
		}
	}
}

// Whole, and yet told as an error: it lasts, and its half counts.
func TestWholeBeyondAnError(t *testing.T) {
	d, had := started(t, []step{{false, "a"}, {false, "b"}})
	all := []uint8{64, 64, 64, 64}
	now, done := broken(t, d, step{true, text(100)}, 3, all, had)
	if !done {
		t.Fatal(now)
	}
	lies(t, d, 15, 25, halfOf(2, text(100)))
	now, done = broken(t, d, step{false, "c"}, 1, all, now)
	if !done {
		t.Fatal(now)
	}
	lies(t, d, 15, 25, halfOf(2, text(100), "c"))
	lies(t, d, 5, 15, halfOf(1, "a", "b"))
	has(t, open(t, d, 5, 20), 6, text(100), "c")
}

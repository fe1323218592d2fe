package store_test

import (
	"fmt"
	"testing"

	"gabion/api"
	"gabion/geom"
	"gabion/parity"
	"gabion/record"
	"gabion/store"
)

// P16.1: Check of stripes that aren't right: a page is spoilt, or the parity is another one; of stripes in which no page counts it isn't asked.
func TestCheck(t *testing.T) {
	for m := range odd.Chips {
		for row := range 3 {
			d, s := format(t, odd)
			batch(t, "check:", s, items(odd, 1, span(s, 0, 12)...))
			batch(t, "check:", s, items(odd, 2, 0, 1, 2, 3))
			if ok, e := s.Check(); !ok || e != api.OK {
				t.Error(ok, e)
			}
			d.spoil(m, 6, row)
			// In row 0 no page counts.
			if ok, e := s.Check(); ok != (row == 0) || e != api.OK {
				t.Error(m, row, ok, e)
			}
			for b := range uint32(12) {
				want := 1
				if b < 4 {
					want = 2
				}
				holds(t, "check:", s, b, want)
			}
		}
	}
}

// uneven: a stripe's parity is sealed, but that of another page.
func uneven(d *members, seg, row int) {
	m := geom.Parity(d.geo, seg, row)
	p := d.pages[spot{m, seg, row}]
	h, _ := record.Open(p.Data, p.Oob)
	data := append([]byte{}, p.Data...)
	data[9] ^= 1
	d.pages[spot{m, seg, row}] = parity.Page{Data: data, Oob: record.Seal(h, data, p.Oob[record.Size:])}
}

// P16.1: Check and Scrub of a stripe that is whole, but isn't even.
func TestUneven(t *testing.T) {
	d, s := format(t, odd)
	batch(t, "uneven:", s, items(odd, 1, span(s, 0, 12)...))
	if n, e := s.Scrub(); n != 0 || e != api.OK {
		t.Error(n, e)
	}
	uneven(d, 6, 1)
	if ok, e := s.Check(); ok || e != api.OK {
		t.Error(ok, e)
	}
	if n, e := s.Scrub(); n != 1 || e != api.OK {
		t.Error(n, e)
	}
	for range 2 {
		right(t, "scrubbed:", odd, s)
		for b := range uint32(12) {
			holds(t, "scrubbed:", s, b, 1)
			if at, ok := s.Where(b); !ok || at.Seg == 6 {
				t.Error(b, at, ok)
			}
		}
		if n, e := s.Scrub(); n != 0 || e != api.OK {
			t.Error(n, e)
		}
		s = mount(t, "scrubbed:", d)
	}
}

// P16.1, P16.2: Scrub clears each segment that has a stripe in which a page counts that isn't whole, also the open one, and no other.
func TestScrub(t *testing.T) {
	for _, g := range small {
		for _, x := range []struct {
			seg, row int
			want     int
		}{{6, 0, 1}, {6, g.Pages - 1, 1}, {7, 1, 1}, {8, 0, 0}} {
			w := newWalk(t, g)
			n := geom.Pages(g) + geom.Width(g)*2
			for from := 0; from < n; from += geom.Width(g) {
				w.batch(span(w.s, from, geom.Width(g)))
			}
			w.batch([]uint32{uint32(w.s.Blocks() - 1)})
			what := fmt.Sprint(g, x)
			if n >= w.s.Blocks() {
				t.Fatal(what, n)
			}
			w.d.spoil(0, x.seg, x.row)
			lives := w.s.Segs()
			many, e := w.s.Scrub()
			if many != x.want || e != api.OK {
				t.Error(what, many, e)
			}
			w.check()
			stats := w.s.Stats()
			if stats.Cleared != x.want || x.want > 0 && stats.Moved != lives[x.seg-6].Live {
				t.Error(what, stats)
			}
			if k := w.s.Segs()[x.seg-6]; x.want > 0 && (k.Kind != 0 || k.Live != 0) {
				t.Error(what, k)
			}
			if many, e := w.s.Scrub(); many != 0 || e != api.OK {
				t.Error(what, "again:", many, e)
			}
			w.s = mount(t, what, w.d)
			w.check()
		}
	}
}

// P16.1: all segments are spoilt: all are cleared, also where room must be made for it.
func TestScrubAll(t *testing.T) {
	for _, g := range small {
		w := newWalk(t, g)
		d := dice(5)
		for from := 0; from < w.s.Blocks(); from += api.MaxBatch {
			w.batch(span(w.s, from, min(api.MaxBatch, w.s.Blocks()-from)))
		}
		for range 30 {
			w.batch(d.some(9, 0, w.s.Blocks()))
		}
		held := map[int]bool{}
		for b := range uint32(w.s.Blocks()) {
			if at, ok := w.s.Where(b); ok && !held[at.Seg] {
				held[at.Seg] = true
				w.d.spoil(1, at.Seg, at.Row)
			}
		}
		if n, e := w.s.Scrub(); n != len(held) || e != api.OK {
			t.Error(g, n, "of", len(held), e)
		}
		w.check()
		w.s = mount(t, "scrubbed:", w.d)
		w.check()
	}
}

// P16.1: Scrub makes room ahead of clearing a segment, for which that one may be cleared.
func TestScrubMakesRoom(t *testing.T) {
	lives, erases := []int{7, 2, 3, 2, 3, 2, 1, 3, 3, 3, 7, 0, 0}, make([]uint32, 13)
	for _, seg := range []int{0, 3, 6} {
		w := laid(t, rows, lives, erases)
		w.d.spoil(1, 6+seg, 0)
		if n, e := w.s.Scrub(); n != 1 || e != api.OK {
			t.Error(seg, n, e)
		}
		if e := w.m.room(0); e != api.OK || w.m.stats.Cleared == 0 {
			t.Fatal(seg, e, w.m.stats)
		}
		if w.m.segs[seg].Live > 0 {
			w.m.clear(seg)
		}
		w.same()
		w.check()
	}
}

// P16.1: with a dead member nothing is to be scrubbed; two pages of a stripe that are spoilt can't be.
func TestScrubWithOneDead(t *testing.T) {
	for m := range odd.Chips {
		d, s := format(t, odd)
		batch(t, "dead:", s, items(odd, 1, span(s, 0, 14)...))
		d.dead = m
		if n, e := s.Scrub(); n != 0 || e != api.OK {
			t.Error(m, n, e)
		}
		right(t, "dead:", odd, s)
		batch(t, "dead:", s, items(odd, 1, span(s, 20, 14)...))
		right(t, "dead:", odd, s)
		right(t, "dead:", odd, mount(t, "dead:", d))
	}
	d, s := format(t, odd)
	batch(t, "two:", s, items(odd, 1, span(s, 0, 14)...))
	d.spoil(0, 6, 1)
	d.spoil(1, 6, 1)
	if n, e := s.Scrub(); n != 0 || e != api.IO {
		t.Error(n, e)
	}
	if ok, e := s.Check(); ok || e != api.IO {
		t.Error(ok, e)
	}
}

// calls are all calls that answer an error, each as what it answers.
func calls(g api.Geo) map[string]func(s *store.Store) (bool, api.Errno) {
	return map[string]func(s *store.Store) (bool, api.Errno){
		"Get": func(s *store.Store) (bool, api.Errno) {
			data, e := s.Get(1)
			return len(data) == 0, e
		},
		"Get of what is staged": func(s *store.Store) (bool, api.Errno) {
			data, e := s.Get(13)
			return len(data) == 0, e
		},
		"Batch":           func(s *store.Store) (bool, api.Errno) { return true, s.Batch(items(g, 2, span(s, 2, 9)...), 1) },
		"Batch of one":    func(s *store.Store) (bool, api.Errno) { return true, s.Batch(items(g, 2, 2)) },
		"Batch of drops":  func(s *store.Store) (bool, api.Errno) { return true, s.Batch(nil, 1, 2) },
		"Batch of none":   func(s *store.Store) (bool, api.Errno) { return true, s.Batch(nil) },
		"Batch of others": func(s *store.Store) (bool, api.Errno) { return true, s.Batch(nil, 99) },
		"Get of others": func(s *store.Store) (bool, api.Errno) {
			data, e := s.Get(99)
			return len(data) == 0, e
		},
		"Point": func(s *store.Store) (bool, api.Errno) { return true, s.Point() },
		"Scrub": func(s *store.Store) (bool, api.Errno) {
			n, e := s.Scrub()
			return n == 0, e
		},
		"Trim": func(s *store.Store) (bool, api.Errno) {
			n, e := s.Trim()
			return n == 0, e
		},
		"Check": func(s *store.Store) (bool, api.Errno) {
			ok, e := s.Check()
			return !ok, e
		},
	}
}

// P16.1: an error that comes at any operation of any call comes through, and stays: all calls answer it from then on; NoSpc and Range don't stay.
func TestErrorStays(t *testing.T) {
	for what, call := range calls(odd) {
		for _, wrong := range []api.Errno{api.Crash, api.Fail, api.Lost, api.Order, api.NoSpc, api.Range, api.Nil} {
			stays := wrong != api.NoSpc && wrong != api.Range
			for from := 1; ; from++ {
				d, s := format(t, odd)
				batch(t, what, s, items(odd, 1, span(s, 0, 14)...))
				d.wrong, d.from = wrong, d.ops+from
				zero, e := call(s)
				if d.ops < d.from {
					break
				}
				if e != wrong || !zero {
					t.Error(what, from, wrong, e, zero)
				}
				d.from = 1 << 60
				for then, by := range calls(odd) {
					if zero, e := by(s); stays && (e != wrong || !zero) {
						t.Error(what, from, wrong, "then", then, e, zero)
					} else if !stays && e == wrong && e == api.NoSpc {
						t.Error(what, from, wrong, "stays:", then, e)
					}
				}
			}
		}
	}
}

// P16.1: an error that comes at any operation of Format and of Mount comes through.
func TestErrorComesThrough(t *testing.T) {
	for _, wrong := range []api.Errno{api.Crash, api.Fail, api.Lost, api.NoSpc} {
		for from := 1; ; from++ {
			d := newMembers(odd)
			d.wrong, d.from = wrong, from
			s, e := store.Format(d)
			if d.ops < from {
				break
			}
			if s != nil || e != wrong {
				t.Error("Format", from, wrong, e)
			}
		}
		for from := 1; ; from++ {
			d, s := format(t, odd)
			batch(t, "through:", s, items(odd, 1, span(s, 0, 14)...))
			d.wrong, d.from = wrong, d.ops+from
			s, e := store.Mount(d)
			if d.ops < d.from {
				break
			}
			if s != nil || e != wrong {
				t.Error("Mount", from, wrong, e)
			}
		}
	}
}

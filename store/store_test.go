package store_test

import (
	"bytes"
	"math"
	"slices"
	"testing"

	"gabion/api"
	"gabion/array"
	"gabion/geom"
	"gabion/point"
	"gabion/store"
	"gabion/wear"
)

// P16.1: shapes on which a store may be, and how many blocks it has; those on which it just may not.
func TestFits(t *testing.T) {
	for _, x := range []struct {
		g    api.Geo
		want int
		e    api.Errno
	}{
		{least, 36, api.OK},
		{rows, 36, api.OK},
		{even, 42, api.OK},
		{odd, 40, api.OK},
		{wide, 120, api.OK},
		{greatest, 49 * 32 * 15 / 2, api.OK},
		{api.Geo{Chips: 3, Blocks: 64, Pages: 32, Size: 256}, 1568, api.OK},
		// Fewer than 8 segments.
		{api.Geo{Chips: 16, Blocks: 18, Pages: 32, Size: 1024}, 0, api.NoSpc},
		{api.Geo{Chips: 16, Blocks: 16, Pages: 32, Size: 1024}, 0, api.NoSpc},
		// Fewer than 32 blocks.
		{api.Geo{Chips: 3, Blocks: 22, Pages: 4, Size: 256}, 0, api.NoSpc},
		{api.Geo{Chips: 3, Blocks: 19, Pages: 7, Size: 256}, 0, api.NoSpc},
		{api.Geo{Chips: 4, Blocks: 19, Pages: 5, Size: 256}, 0, api.NoSpc},
		// Fewer than 64 / Width + 4 stripes: 36, 25, 20.
		{api.Geo{Chips: 3, Blocks: 19, Pages: 8, Size: 256}, 0, api.NoSpc},
		{api.Geo{Chips: 3, Blocks: 22, Pages: 5, Size: 256}, 0, api.NoSpc},
		{api.Geo{Chips: 3, Blocks: 23, Pages: 4, Size: 256}, 0, api.NoSpc},
		{api.Geo{Chips: 4, Blocks: 19, Pages: 6, Size: 1024}, 0, api.NoSpc},
		{api.Geo{Chips: 5, Blocks: 19, Pages: 4, Size: 1024}, 0, api.NoSpc},
	} {
		if n, e := store.Fits(x.g); n != x.want || e != x.e {
			t.Error(x.g, n, e, "want", x.want, x.e)
		}
	}
	for _, g := range noShapes {
		if n, e := store.Fits(g); n != 0 || e != api.Range {
			t.Error(g, n, e)
		}
	}
}

// P16.1: Fits, by its words, of all shapes.
func TestFitsOfAll(t *testing.T) {
	for chips := api.MinChips; chips <= api.MaxChips; chips++ {
		for blocks := api.MinBlocks; blocks <= api.MaxBlocks; blocks++ {
			for pages := api.MinPages; pages <= api.MaxPages; pages++ {
				g := api.Geo{Chips: chips, Blocks: blocks, Pages: pages, Size: 256}
				segs, want, we := blocks-11, geom.Capacity(g), api.OK
				if segs < 8 || want < 32 || (segs-4)*pages < 64/(chips-1)+4 {
					want, we = 0, api.NoSpc
				}
				if n, e := store.Fits(g); n != want || e != we {
					t.Fatal(g, n, e, "want", want, we)
				}
			}
		}
	}
}

// P16.1: a new store: nothing is anywhere, all segments are free, its first point is there.
func TestFormat(t *testing.T) {
	for _, g := range append([]api.Geo{greatest}, small...) {
		d, s := format(t, g)
		newModel(g).same(t, "new:", s)
		if segs := s.Segs(); len(segs) != geom.Segments(g) || wear.Count(segs, wear.Free) != len(segs) {
			t.Error(g, segs)
		}
		if s.Epoch() != 1 || s.Stats() != (store.Stats{Points: 1}) || len(s.Staged()) != 0 {
			t.Error(g, s.Epoch(), s.Stats(), s.Staged())
		}
		if used, rows := s.Space(); used != 0 || rows != geom.Segments(g)*g.Pages {
			t.Error(g, used, rows)
		}
		p, ok, most, e := point.Last(d)
		if e != api.OK || !ok || most != 1 || p.Seq != 1 || p.Batch != 0 || len(p.Map) != s.Blocks() || len(p.Erases) != geom.Segments(g) {
			t.Error(g, p.Seq, ok, most, e)
		}
		for _, b := range []uint32{0, 1, uint32(s.Blocks() - 1)} {
			holds(t, "new:", s, b, never)
			if at, ok := s.Where(b); ok || at != (geom.Place{}) {
				t.Error(g, b, at, ok)
			}
		}
		right(t, "new:", g, s)
	}
}

// P16.1: Format where a store was: it is gone, also behind a Mount.
func TestFormatAgain(t *testing.T) {
	for _, n := range []int{0, 1, 2, 5} {
		d, s := format(t, least)
		for i := range n {
			batch(t, "ahead of it:", s, items(least, i, span(s, i, 7)...))
			if e := s.Point(); e != api.OK {
				t.Fatal(e)
			}
		}
		batch(t, "ahead of it:", s, items(least, 1, 9))
		was := s.Epoch()
		s, e := store.Format(d)
		if e != api.OK {
			t.Fatal(e)
		}
		for range 2 {
			if used, _ := s.Space(); used != 0 || s.Epoch() <= was || s.Stats() != (store.Stats{Points: 1}) {
				t.Error(n, used, s.Epoch(), s.Stats())
			}
			for b := range uint32(s.Blocks()) {
				holds(t, "formatted again:", s, b, never)
			}
			right(t, "formatted again:", least, s)
			s = mount(t, "formatted again:", d)
		}
		batch(t, "formatted again:", s, items(least, 2, 0, 1, 2))
		s = mount(t, "formatted again:", d)
		holds(t, "formatted again:", s, 2, 2)
		holds(t, "formatted again:", s, 9, never)
	}
}

// P16.1: Format and Mount of nothing, of shapes that are none, or on which there is no room.
func TestNoMembers(t *testing.T) {
	if s, e := store.Format(nil); s != nil || e != api.Nil {
		t.Error(s, e)
	}
	if s, e := store.Mount(nil); s != nil || e != api.Nil {
		t.Error(s, e)
	}
	if s, e := store.Format((*array.Array)(nil)); s != nil || e != api.Range {
		t.Error(s, e)
	}
	if s, e := store.Mount((*array.Array)(nil)); s != nil || e != api.Range {
		t.Error(s, e)
	}
	for _, g := range noShapes {
		d := newMembers(g)
		if s, e := store.Format(d); s != nil || e != api.Range {
			t.Error(g, e)
		}
		if s, e := store.Mount(d); s != nil || e != api.Range {
			t.Error(g, e)
		}
		if len(d.erased) > 0 {
			t.Error(g, "was erased", d.erased)
		}
	}
	for _, g := range []api.Geo{{Chips: 3, Blocks: 16, Pages: 4, Size: 256}, {Chips: 3, Blocks: 23, Pages: 4, Size: 256}, {Chips: 16, Blocks: 18, Pages: 32, Size: 1024}} {
		d := newMembers(g)
		if s, e := store.Format(d); s != nil || e != api.NoSpc || len(d.erased) > 0 {
			t.Error(g, e, d.erased)
		}
		if s, e := store.Mount(d); s != nil || e != api.Form {
			t.Error(g, e)
		}
	}
}

// P1 (rule 6): a store that is nil, or wasn't made by a call.
func TestNil(t *testing.T) {
	for _, s := range []*store.Store{nil, {}} {
		if data, e := s.Get(0); data != nil || e != api.Nil {
			t.Error(data, e)
		}
		if e := s.Batch(items(least, 0, 1), 2); e != api.Nil {
			t.Error(e)
		}
		if e := s.Batch(nil); e != api.Nil {
			t.Error(e)
		}
		if e := s.Point(); e != api.Nil {
			t.Error(e)
		}
		if n, e := s.Scrub(); n != 0 || e != api.Nil {
			t.Error(n, e)
		}
		if n, e := s.Trim(); n != 0 || e != api.Nil {
			t.Error(n, e)
		}
		if ok, e := s.Check(); ok || e != api.Nil {
			t.Error(ok, e)
		}
		at, ok := s.Where(0)
		used, rows := s.Space()
		if s.Blocks() != 0 || s.Most() != 0 || s.Epoch() != 0 || len(s.Segs()) != 0 || len(s.Staged()) != 0 || at != (geom.Place{}) || ok || used != 0 || rows != 0 || s.Stats() != (store.Stats{}) {
			t.Error("something is told of no store")
		}
	}
}

// P16.1: blocks that there are, and that there aren't.
func TestEdges(t *testing.T) {
	for _, g := range small {
		_, s := format(t, g)
		end := uint32(s.Blocks())
		for _, b := range []uint32{0, end - 1} {
			batch(t, "an edge:", s, items(g, 1, b))
			holds(t, "an edge:", s, b, 1)
			batch(t, "an edge:", s, nil, b)
			holds(t, "an edge:", s, b, never)
		}
		for _, b := range []uint32{end, end + 1, 1 << 16, 1 << 31, math.MaxUint32} {
			if data, e := s.Get(b); data != nil || e != api.Range {
				t.Error(g, b, len(data), e)
			}
			if e := s.Batch(items(g, 2, b)); e != api.Range {
				t.Error(g, b, e)
			}
			if e := s.Batch(items(g, 2, 0), b); e != api.Range {
				t.Error(g, b, e)
			}
			if e := s.Batch(nil, 0, b); e != api.Range {
				t.Error(g, b, e)
			}
			if at, ok := s.Where(b); ok || at != (geom.Place{}) {
				t.Error(g, b, at, ok)
			}
		}
		holds(t, "refused:", s, 0, never)
		if s.Most() != g.Pages*(g.Chips/2) || s.Blocks() != geom.Capacity(g) {
			t.Error(g, s.Most(), s.Blocks())
		}
	}
}

// P1 (rule 4): what is handed in isn't changed, nor kept; what is answered is new memory.
func TestNewMemory(t *testing.T) {
	d, s := format(t, odd)
	l := append(items(odd, 1, 0, 1, 2, 3, 4, 5), store.Item{Block: 77}, store.Item{Block: 78})
	drops := []uint32{8, 9, 8, 70, 71}
	kept, want := slices.Clone(drops), items(odd, 1, 0, 1, 2, 3, 4, 5)
	batch(t, "new:", s, l[:6], drops[:3]...)
	if !slices.Equal(drops, kept) || l[6].Block != 77 || l[7].Block != 78 || l[6].Data != nil {
		t.Error("a list is changed")
	}
	for i, x := range want {
		if l[i].Block != x.Block || !bytes.Equal(l[i].Data, x.Data) {
			t.Error("an item is changed", i)
		}
		clear(l[i].Data)
	}
	for b := range uint32(6) {
		holds(t, "changed outside:", s, b, 1)
		data, _ := s.Get(b)
		clear(data)
		holds(t, "changed outside:", s, b, 1)
	}
	data, _ := s.Get(20)
	data[0] = 1
	holds(t, "changed outside:", s, 20, never)
	x, y := s.Segs(), s.Staged()
	if len(y) != 2 {
		t.Fatal(y)
	}
	x[0].Live, y[0] = 99, 99
	_, _ = append(x[:1], wear.Seg{Erases: 7}), append(y[:1], 33)
	if z := s.Segs(); z[0].Live == 99 || z[1].Erases == 7 || !slices.Equal(s.Staged(), []uint32{4, 5}) {
		t.Error("what is told is kept", z, s.Staged())
	}
	right(t, "changed outside:", odd, mount(t, "changed outside:", d))
}

// P1 (rule 5): the same calls, on the same members, answer the same.
func TestSame(t *testing.T) {
	a, b := newWalk(t, even), newWalk(t, even)
	for _, w := range []*walk{a, b} {
		d := dice(3)
		for range 60 {
			w.batch(d.some(d.next(33), 0, w.s.Blocks()))
		}
	}
	if len(a.d.pages) != len(b.d.pages) || !slices.Equal(a.d.erased, b.d.erased) {
		t.Fatal(len(a.d.pages), len(b.d.pages))
	}
	for at, p := range a.d.pages {
		if q := b.d.pages[at]; !bytes.Equal(p.Data, q.Data) || !bytes.Equal(p.Oob, q.Oob) {
			t.Error("another page at", at)
		}
	}
}

package store_test

import (
	"fmt"
	"math"
	"slices"
	"testing"

	"gabion/api"
	"gabion/array"
	"gabion/geom"
	"gabion/nand"
	"gabion/point"
	"gabion/record"
	"gabion/stage"
	"gabion/store"
	"gabion/stripe"
)

// P16.1: Mount of what holds no point, or one of another size, or one that names what is no place of data.
func TestMountForm(t *testing.T) {
	for _, g := range small {
		blocks, segs := geom.Capacity(g), geom.Segments(g)
		last := geom.Number(g, geom.Place{Seg: g.Virtual() - 1, Row: g.Pages - 1, Slot: g.Chips - 2})
		first := geom.Number(g, geom.Place{Seg: 6})
		named := func(n uint32) []uint32 {
			l := make([]uint32, blocks)
			l[blocks-1] = n
			return l
		}
		for _, x := range []struct {
			what   string
			places []uint32
			erases int
			want   api.Errno
		}{
			{"none is anywhere", named(0), segs, api.OK},
			{"the first place", named(first), segs, api.OK},
			{"the last place", named(last), segs, api.OK},
			{"ahead of the first place", named(first - 1), segs, api.Form},
			{"a place of members", named(1), segs, api.Form},
			{"behind the last place", named(last + 1), segs, api.Form},
			{"far beyond", named(math.MaxUint32), segs, api.Form},
			{"a block more", make([]uint32, blocks+1), segs, api.Form},
			{"a block less", make([]uint32, blocks-1), segs, api.Form},
			{"no block", nil, segs, api.Form},
			{"a segment more", named(0), segs + 1, api.Form},
			{"a segment less", named(0), segs - 1, api.Form},
			{"no segment", named(0), 0, api.Form},
		} {
			d := newMembers(g)
			if e := point.Write(d, point.Point{Seq: 7, Map: x.places, Erases: make([]uint32, x.erases)}); e != api.OK {
				t.Fatal(g, x.what, e)
			}
			s, e := store.Mount(d)
			if e != x.want || (s == nil) != (x.want != api.OK) {
				t.Error(g, x.what, s != nil, e)
			}
			if s != nil && (s.Epoch() != 8 || s.Stats() != (store.Stats{Points: 1})) {
				t.Error(g, x.what, s.Epoch(), s.Stats())
			}
		}
		if s, e := store.Mount(newMembers(g)); s != nil || e != api.Form {
			t.Error(g, "nothing stands there:", e)
		}
	}
}

// P16.1: a number above which there is none.
func TestMountGreatestNumber(t *testing.T) {
	for _, x := range []struct {
		seq, want uint32
		e         api.Errno
	}{{math.MaxUint32 - 1, math.MaxUint32, api.OK}, {math.MaxUint32, 0, api.Range}} {
		d := newMembers(least)
		p := point.Point{Seq: x.seq, Map: make([]uint32, geom.Capacity(least)), Erases: make([]uint32, geom.Segments(least))}
		if e := point.Write(d, p); e != api.OK {
			t.Fatal(e)
		}
		s, e := store.Mount(d)
		if e != x.e || s.Epoch() != x.want {
			t.Error(x, s.Epoch(), e)
		}
		if s == nil {
			continue
		}
		batch(t, "the greatest number:", s, items(least, 1, 4))
		for range 2 {
			if e := s.Point(); e != api.Range {
				t.Error(e)
			}
			holds(t, "the greatest number:", s, 4, 1)
			right(t, "the greatest number:", least, s)
		}
	}
}

// P16.1: Mount again and again, with nothing between: nothing is changed but the number of the point; no room is lost.
func TestMountAgain(t *testing.T) {
	for _, g := range small {
		w := newWalk(t, g)
		for l := range slices.Chunk(span(w.s, 0, w.s.Blocks()), api.MaxBatch) {
			w.batch(l)
		}
		w.batch([]uint32{1})
		w.mount()
		_, rows := w.s.Space()
		for range 9 {
			was := w.s.Epoch()
			w.mount()
			// The segment that was open is closed.
			if _, n := w.s.Space(); n < rows-g.Pages || w.s.Epoch() != was+1 {
				t.Error(g, n, rows, was, w.s.Epoch())
			}
		}
		w.check()
		w.batch(span(w.s, 5, api.MaxBatch))
		w.check()
	}
}

// P16.1: a store is mounted behind each batch, also where each is staged.
func TestMountBetween(t *testing.T) {
	for _, g := range small {
		for _, n := range []int{1, 2, g.Chips - 1, g.Chips, 20} {
			w := newWalk(t, g)
			for i := range 40 {
				w.batch(span(w.s, i*7, n), span(w.s, i*7+n, i%2)...)
				w.mount()
			}
			w.check()
		}
	}
}

// P16.1: all batches are done behind a Mount that staged pages, wrote stripes, and wrote what was staged.
func TestMountMany(t *testing.T) {
	w := newWalk(t, odd)
	for _, l := range [][]uint32{{0}, {1, 2}, {0}, {3, 0}, {4, 5, 6, 7, 8}, {4}, {1, 5, 4}, {9, 1}} {
		w.batch(l)
		k := *w
		k.d = w.d.copied()
		m := *w.m
		m.at, m.segs = map[uint32]geom.Place{}, slices.Clone(m.segs)
		k.m = &m
		k.mount()
		k.check()
	}
}

// P16.1: a page of a batch is missing: that one isn't done, nor those behind it.
func TestMissingPage(t *testing.T) {
	for _, x := range []struct {
		what  string
		spoil func(d *members)
		last  int // the last batch that is done
	}{
		{"none", func(d *members) {}, 5},
		{"the first, of a stripe", func(d *members) { d.spoil(0, 6, 0) }, 0},
		{"a page that is staged, on one member", func(d *members) { d.spoil(0, 5, 0) }, 5},
		{"a page that is staged, on both", func(d *members) { d.spoil(0, 5, 0); d.spoil(1, 5, 0) }, 1},
		{"another one that is staged", func(d *members) { d.spoil(2, 5, 0); d.spoil(3, 5, 0) }, 2},
		{"a stripe behind", func(d *members) { d.spoil(4, 6, 1) }, 2},
		{"the last one", func(d *members) { d.spoil(0, 6, 3) }, 4},
	} {
		d, s := format(t, odd)
		batch(t, x.what, s, items(odd, 1, 0, 1, 2, 3))        // row 0
		batch(t, x.what, s, items(odd, 2, 0))                 // staged 0
		batch(t, x.what, s, items(odd, 3, 0, 4, 5, 6, 7))     // row 1, 2 others staged
		batch(t, x.what, s, items(odd, 4, 8, 9, 10))          // row 2
		batch(t, x.what, s, items(odd, 5, 0, 1, 2, 3, 11, 4)) // row 3
		x.spoil(d)
		s = mount(t, x.what, d)
		for b := range uint32(12) {
			want := never
			for n, l := range [][]uint32{{0, 1, 2, 3}, {0}, {0, 4, 5, 6, 7}, {8, 9, 10}, {0, 1, 2, 3, 11, 4}} {
				if n < x.last && slices.Contains(l, b) {
					want = n + 1
				}
			}
			holds(t, x.what, s, b, want)
		}
		right(t, x.what, odd, s)
		// What wasn't done isn't done later on.
		batch(t, x.what, s, items(odd, 6, 20))
		s = mount(t, x.what, d)
		holds(t, x.what, s, 20, 6)
		if x.last < 5 {
			holds(t, x.what, s, 11, never)
		}
	}
}

// P16.1: rows are looked at up to one that isn't whole: a batch behind it isn't done, whatever stood there.
func TestRowsBehindOneThatIsTorn(t *testing.T) {
	for _, spoilt := range []bool{false, true} {
		d, s := format(t, odd)
		batch(t, "torn:", s, items(odd, 1, 1))
		if e := s.Point(); e != api.OK {
			t.Fatal(e)
		}
		batch(t, "torn:", s, items(odd, 2, 2, 3, 4, 5))
		want := 2
		if spoilt {
			d.spoil(3, 6, 0)
			want = never
		}
		s = mount(t, "torn:", d)
		holds(t, "torn:", s, 1, 1)
		holds(t, "torn:", s, 4, want)
	}
}

// put stages a page.
func put(t *testing.T, d point.Dev, which, n int, h record.Header, time int) {
	t.Helper()
	h.Kind = record.Data
	if e := stage.Put(d, which, n, stripe.Page{Head: h, Data: bytesOf(d.Geo(), h.Block, time)}); e != api.OK {
		t.Fatal(e)
	}
}

// P16.1: only pages of the last point's epoch are done, those of batch 1 on, whole ones, of blocks that there are, in whichever of both blocks they are staged.
func TestWhichPages(t *testing.T) {
	d := newMembers(odd)
	p := point.Point{Seq: 4, Map: make([]uint32, geom.Capacity(odd)), Erases: make([]uint32, geom.Segments(odd))}
	if e := point.Write(d, p); e != api.OK {
		t.Fatal(e)
	}
	put(t, d, 1, 0, record.Header{Epoch: 3, Batch: 1, Count: 1, Block: 1}, 1) // of an earlier epoch
	put(t, d, 1, 1, record.Header{Epoch: 4, Batch: 1, Count: 2, Block: 2}, 1)
	put(t, d, 0, 0, record.Header{Epoch: 4, Batch: 1, Index: 1, Count: 2, Block: 3}, 1)
	put(t, d, 0, 1, record.Header{Epoch: 4, Batch: 0, Count: 1, Block: 4}, 1) // of no batch
	put(t, d, 0, 2, record.Header{Epoch: 4, Batch: 2, Count: 1, Block: 5}, 1)
	put(t, d, 0, 3, record.Header{Epoch: 4, Batch: 3, Count: 1, Block: 40}, 1) // there is no such block
	put(t, d, 0, 4, record.Header{Epoch: 4, Batch: 4, Count: 1, Block: 6}, 1)
	h := record.Header{Kind: record.Fill, Epoch: 4, Batch: 3, Count: 1, Block: 7}
	lay(t, d, 9, stripe.Page{Head: h, Data: bytesOf(odd, 7, 1)})
	s := mount(t, "which:", d)
	for b, want := range map[uint32]int{1: never, 2: 1, 3: 1, 4: never, 5: 1, 6: never, 7: never} {
		holds(t, "which:", s, b, want)
	}
	if used, _ := s.Space(); used != 3 || s.Epoch() != 5 {
		t.Error(used, s.Epoch())
	}
	right(t, "which:", odd, s)
}

// P16.1: a batch whose pages tell another count, or none.
func TestCounts(t *testing.T) {
	for _, l := range [][]record.Header{
		{{Index: 0, Count: 2}, {Index: 1, Count: 3}},
		{{Index: 0, Count: 0}, {Index: 1, Count: 0}},
		{{Index: 0, Count: 65535}, {Index: 1, Count: 65535}},
		{{Index: 1, Count: 2}, {Index: 2, Count: 2}},
		{{Index: 1, Count: 1}, {Index: 65535, Count: 1}},
	} {
		d, s := format(t, odd)
		for n, h := range l {
			h.Epoch, h.Batch, h.Block = 1, 1, uint32(n+1)
			put(t, d, 1, n, h, 1)
		}
		s = mount(t, "counts:", d)
		for b := range uint32(3) {
			holds(t, fmt.Sprint(l), s, b, never)
		}
	}
}

// P16.1: segments that the point's map names, or that hold a page of its epoch, aren't free ahead of the new point; others are.
func TestWhatIsFree(t *testing.T) {
	w := newWalk(t, rows)
	w.batch(span(w.s, 0, 8)) // segment 6
	w.batch(span(w.s, 8, 8)) // segment 7
	w.point()
	w.batch(span(w.s, 8, 8)) // segment 8
	w.batch([]uint32{20})    // staged
	w.d.erased = nil
	w.mount()
	// What is staged goes to the first that is free; the other point, that may be one that was cut off, goes first.
	if want := []int{3, 9, 3, 5}; !slices.Equal(w.d.erased, want) {
		t.Error(w.d.erased, "want", want)
	}
	if at, ok := w.s.Where(20); !ok || at.Seg != 9 {
		t.Error(at, ok)
	}
	w.check()
}

// P16.1: a point that can't be read any longer: the one ahead of it is the last, and the batches behind it aren't taken for others, staged or not.
func TestPointIsSpoilt(t *testing.T) {
	for _, n := range []int{1, 2, 3, 4, 7} {
		d, s := format(t, even)
		batch(t, "spoilt:", s, items(even, 1, span(s, 0, 9)...))
		if e := s.Point(); e != api.OK {
			t.Fatal(e)
		}
		batch(t, "spoilt:", s, items(even, 2, span(s, 0, n)...))
		batch(t, "spoilt:", s, items(even, 3, span(s, 20, n)...))
		d.spoil(0, 2, 0)
		s = mount(t, "spoilt:", d)
		for range 3 {
			for b := range uint32(30) {
				want := 1
				if b >= 9 {
					want = never
				}
				holds(t, fmt.Sprint("spoilt: ", n), s, b, want)
			}
			right(t, "spoilt:", even, s)
			s = mount(t, "spoilt:", d)
		}
	}
}

// P16.3: Format is cut off at any operation: there is no store, or one that holds nothing; it is formatted again.
func TestFormatIsCutOff(t *testing.T) {
	for _, g := range []api.Geo{rows, even} {
		for killed := -1; killed < g.Chips; killed++ {
			for op := 1; ; op++ {
				what := fmt.Sprint(g.Chips, " cut off at ", op, ", dead: ", killed)
				a := fresh(t, g)
				x, e := array.Format(a)
				if e != api.OK {
					t.Fatal(e)
				}
				if a.Kill(killed); killed >= 0 {
					x.Read(killed, 0, 0)
				}
				a = a.Copy(nand.Event{Op: op, Kind: nand.Crash, Left: left(op)})
				if x, e = array.Open(a); e == api.OK {
					_, e = store.Format(x)
				}
				if e == api.OK {
					break
				}
				a.Boot()
				if x, e = array.Open(a); e != api.OK {
					t.Fatal(what, e)
				}
				s, e := store.Mount(x)
				if e == api.OK {
					right(t, what, g, s)
				} else if e != api.Form {
					t.Error(what, e)
				}
				if s, e = store.Format(x); e != api.OK {
					t.Fatal(what, e)
				}
				if used, _ := s.Space(); used != 0 {
					t.Error(what, used)
				}
				batch(t, what, s, items(g, 1, 3))
				s = mount(t, what, x)
				holds(t, what, s, 3, 1)
			}
		}
	}
}

package store_test

import (
	"fmt"
	"slices"
	"testing"

	"gabion/api"
	"gabion/geom"
	"gabion/point"
	"gabion/record"
	"gabion/store"
	"gabion/stripe"
	"gabion/wear"
)

// laid: members on which a store stands whose segments have so many pages that count, and were erased so often.
func laid(t *testing.T, g api.Geo, lives []int, erases []uint32) *walk {
	t.Helper()
	w := &walk{t: t, what: fmt.Sprint(g, lives, erases), d: newMembers(g), m: newModel(g), want: map[uint32]int{}, old: map[uint32]int{}}
	w.m.named, w.m.erases, w.m.epoch = map[uint32]geom.Place{}, erases, 4
	p := point.Point{Seq: 4, Map: make([]uint32, w.m.blocks), Erases: erases}
	for n, many := range lives {
		var l []stripe.Page
		for i := range many {
			b := uint32(len(w.want))
			at := geom.Place{Seg: 6 + n, Row: i / geom.Width(g), Slot: i % geom.Width(g)}
			w.want[b], w.m.named[b], p.Map[b] = 0, at, geom.Number(g, at)
			l = append(l, stripe.Page{Head: record.Header{Kind: record.Data, Epoch: 3, Block: b}, Data: bytesOf(g, b, 0)})
		}
		lay(t, w.d, 6+n, l...)
	}
	if e := point.Write(w.d, p); e != api.OK {
		t.Fatal(w.what, e)
	}
	w.mount()
	w.check()
	return w
}

// lay writes pages as stripes of a segment, from row 0 on, filled up.
func lay(t *testing.T, d point.Dev, seg int, l ...stripe.Page) {
	t.Helper()
	g := d.Geo()
	for row := 0; len(l) > 0; row++ {
		n := min(geom.Width(g), len(l))
		some := slices.Clone(l[:n])
		for len(some) < geom.Width(g) {
			some = append(some, stripe.Fill(g, l[0].Head.Epoch, l[0].Head.Batch))
		}
		if e := stripe.Write(d, seg, row, some...); e != api.OK {
			t.Fatal(seg, row, e)
		}
		l = l[n:]
	}
}

// P16.1: room is made for a batch: Moves segments are cleared at most, then there is none; that doesn't stay.
func TestMoves(t *testing.T) {
	enough, short := false, false
	// Clearing a segment with 7 pages gains nothing; as long as others were erased much more often it is these that are cleared.
	for high := uint32(8); high < 34; high++ {
		for once := range 7 {
			erases := []uint32{0, 0, 0, 0, high, high, high, high, high, high, high, 0, 0}
			for n := range once {
				erases[[]int{0, 1, 2, 3, 11, 12}[n]] = 1
			}
			w := laid(t, rows, []int{7, 7, 7, 7, 1, 1, 1, 1, 1, 1, 1, 0, 0}, erases)
			for n := range 3 {
				e := w.s.Batch(items(rows, 1, 2, 30), 33)
				if want := w.m.batch([]uint32{2, 30}, 33); e != want || e != api.OK && e != api.NoSpc {
					t.Fatal(w.what, e, "want", want)
				}
				w.same()
				cleared := w.s.Stats().Cleared
				enough = enough || n == 0 && e == api.OK && cleared == store.Moves
				short = short || n == 1 && e == api.OK && cleared == store.Moves+1
				if e == api.OK {
					w.want[2], w.want[30] = 1, 1
					delete(w.want, 33)
				}
				w.check()
			}
		}
	}
	if !enough || !short {
		t.Error("as many as may be weren't needed, or one more", enough, short)
	}
}

// P16.1: no segment is free, so that none can be cleared: NoSpc, of all that needs room; that doesn't stay.
func TestNothingFree(t *testing.T) {
	lives := slices.Repeat([]int{4}, geom.Segments(least))
	w := laid(t, least, lives, make([]uint32, len(lives)))
	for range 2 {
		if e := w.s.Batch(items(least, 1, 2)); e != api.NoSpc {
			t.Error(e)
		}
		if e := w.s.Batch(nil, 3); e != api.NoSpc {
			t.Error(e)
		}
		if e := w.s.Point(); e != api.NoSpc {
			t.Error(e)
		}
		if n, e := w.s.Trim(); n != 0 || e != api.NoSpc {
			t.Error(n, e)
		}
		if e := w.s.Batch(items(least, 1, 99)); e != api.Range {
			t.Error(e)
		}
		if n, e := w.s.Scrub(); n != 0 || e != api.OK {
			t.Error(n, e)
		}
		w.same()
		w.check()
		w.mount()
	}
	w.d.spoil(0, 7, 1)
	if n, e := w.s.Scrub(); n != 0 || e != api.NoSpc {
		t.Error(n, e)
	}
	w.same()
}

// P16.1: a segment that is cleared: what is staged goes ahead of its blocks, these rise.
func TestCleared(t *testing.T) {
	erases := []uint32{0, 9, 9, 9, 9, 9, 9, 9, 9, 9, 9, 0, 0}
	w := laid(t, rows, []int{5, 2, 2, 2, 2, 2, 2, 2, 2, 2, 2, 0, 0}, erases)
	// Of the first segment's five two are written again, so that the others stand in another order.
	epoch := w.s.Epoch()
	w.batch([]uint32{3, 1})
	w.check()
	if x := w.s.Stats(); x.Cleared == 0 || x.Moved < x.Cleared || w.s.Epoch() == epoch {
		t.Error(x)
	}
	var last uint32
	for _, x := range pagesOf(t, w.d, epoch+1) {
		if h := x.head; h.Kind == record.Data && (h.Batch != 0 || h.Block < last) {
			t.Error("moved:", x)
		} else if h.Kind == record.Data {
			last = h.Block
		}
	}
	if last == 0 {
		t.Error("nothing was moved")
	}
}

// P16.1: a new point: what is staged is written as a stripe, filled up, in order; the numbers are odd and even in turn.
func TestPoint(t *testing.T) {
	w := newWalk(t, odd)
	for n := range uint32(6) {
		if w.s.Epoch() != n+1 {
			t.Error(n, w.s.Epoch())
		}
		w.batch([]uint32{7 + n, 3})
		w.point()
		if w.s.Epoch() != n+2 || len(w.s.Staged()) != 0 {
			t.Error(n, w.s.Epoch(), w.s.Staged())
		}
		want := []found{}
		for slot, h := range []record.Header{{Kind: record.Data, Block: 7 + n}, {Kind: record.Data, Block: 3}, {Kind: record.Fill}, {Kind: record.Fill}} {
			h.Epoch = n + 2
			want = append(want, found{h, 6 + int(n)/5, int(n)%5*4 + slot})
		}
		if l := pagesOf(t, w.d, n+2); !slices.Equal(l, want) {
			t.Error(n, l, "want", want)
		}
		p, ok, most, e := point.Last(w.d)
		if !ok || e != api.OK || p.Seq != n+2 || most != n+2 || p.Batch != 1 {
			t.Error(n, p.Seq, p.Batch, ok, most, e)
		}
		w.check()
	}
	// Nothing is staged.
	_, rows := w.s.Space()
	w.point()
	if _, n := w.s.Space(); n != rows {
		t.Error(rows, n)
	}
	for n := range uint32(5) {
		was := w.s.Epoch()
		w.mount()
		if w.s.Epoch() != was+1 {
			t.Error(n, was, w.s.Epoch())
		}
	}
	w.check()
}

// P16.1: Trim makes free what waits for it, and tells how many are.
func TestTrim(t *testing.T) {
	w := newWalk(t, rows)
	for n := range 4 {
		w.batch(span(w.s, 0, 8))
		if n > 0 {
			if x := w.s.Segs(); x[n-1].Live != 0 || x[n-1].Kind != wear.Closed {
				t.Error(n, x)
			}
		}
	}
	trim := func(want int) {
		t.Helper()
		if n, e := w.s.Trim(); n != want || e != api.OK {
			t.Error(n, e, "want", want)
		}
		w.m.point(nil)
		w.same()
		w.check()
	}
	trim(12)
	trim(12)
	w.batch([]uint32{8})
	trim(11)
	// The open one isn't free, though nothing counts in it.
	w.batch(nil, span(w.s, 0, 9)...)
	if x := w.s.Segs()[4]; x.Kind != wear.Open || x.Live != 0 {
		t.Error(x)
	}
	trim(12)
}

// P16.1: a point that is cut off at any operation: the next one has the least number above all that was met, odd if the last whole one is even, and the other way.
func TestCutOff(t *testing.T) {
	for last := range 2 {
		for from := 1; ; from++ {
			w := newWalk(t, even)
			for range last {
				w.point()
			}
			w.batch([]uint32{1, 2})
			w.d.wrong, w.d.from = api.Crash, w.d.ops+from
			e := w.s.Point()
			w.d.from = 1 << 60
			if e == api.OK {
				break
			}
			p, ok, most, pe := point.Last(w.d)
			if e != api.Crash || pe != api.OK || !ok {
				t.Fatal(from, e, ok, pe)
			}
			want := most + 1
			if want%2 == p.Seq%2 {
				want++
			}
			what := fmt.Sprint("cut off at ", from, ":")
			s := mount(t, what, w.d)
			if s.Epoch() != want {
				t.Error(what, s.Epoch(), "want", want)
			}
			holds(t, what, s, 1, 1)
			holds(t, what, s, 2, 1)
			right(t, what, even, s)
		}
	}
}

// P16.1: likewise, where the point has many stripes: its number was met.
func TestCutOffBetween(t *testing.T) {
	g := api.Geo{Chips: 3, Blocks: 40, Pages: 32, Size: 256}
	w := newWalk(t, g)
	for n := range uint32(3) {
		w.batch([]uint32{n})
		was := w.s.Epoch()
		p := point.Point{Seq: was + 1, Map: make([]uint32, w.s.Blocks()), Erases: make([]uint32, geom.Segments(g))}
		w.d.wrong, w.d.from = api.Crash, w.d.ops+6
		if e := point.Write(w.d, p); e != api.Crash {
			t.Fatal(e)
		}
		w.d.from = 1 << 60
		w.s = mount(t, "cut off:", w.d)
		if w.s.Epoch() != was+3 {
			t.Error(was, w.s.Epoch())
		}
		for b := range n + 1 {
			holds(t, "cut off:", w.s, b, int(b)+1)
		}
		w.m.epoch += 2
		w.m.mount()
		w.same()
	}
}

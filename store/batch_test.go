package store_test

import (
	"fmt"
	"slices"
	"testing"

	"gabion/api"
	"gabion/geom"
	"gabion/record"
	"gabion/stage"
	"gabion/store"
	"gabion/stripe"
)

// The chapter's example: of three members a batch of one block is staged; a second one fills a stripe.
func TestExample(t *testing.T) {
	d, s := format(t, least)
	batch(t, "one:", s, items(least, 1, 5))
	if _, ok := s.Where(5); ok || !slices.Equal(s.Staged(), []uint32{5}) {
		t.Error(s.Staged())
	}
	holds(t, "one:", s, 5, 1)
	batch(t, "two:", s, items(least, 1, 3))
	for i, b := range []uint32{5, 3} {
		if at, ok := s.Where(b); !ok || at != (geom.Place{Seg: 6, Row: 0, Slot: i}) {
			t.Error(b, at, ok)
		}
		holds(t, "two:", s, b, 1)
	}
	if len(s.Staged()) != 0 {
		t.Error(s.Staged())
	}
	right(t, "two:", least, s)
	s = mount(t, "two:", d)
	holds(t, "mounted:", s, 5, 1)
	holds(t, "mounted:", s, 3, 1)
}

// P16.1: what stands beside a batch's pages: those of stripes, that waited ahead of it among them, those that fill them up, and those that are staged.
func TestHeads(t *testing.T) {
	d, s := format(t, odd) // 4 pages a stripe, 10 staged
	page := func(batch uint32, index, many int, b uint32) record.Header {
		return record.Header{Kind: record.Data, Epoch: s.Epoch(), Batch: batch, Index: uint16(index), Count: uint16(many), Block: b}
	}
	check := func(what string, batch uint32, want ...found) {
		t.Helper()
		l := slices.DeleteFunc(pagesOf(t, d, s.Epoch()), func(x found) bool { return x.head.Batch != batch })
		if !slices.Equal(l, want) {
			t.Error(what, l, "want", want)
		}
	}
	which := geom.Stages + int(s.Epoch()%2)
	batch(t, "three:", s, items(odd, 1, 7, 2, 9))
	check("three are staged:", 1, found{page(1, 0, 3, 7), which, 0}, found{page(1, 1, 3, 2), which, 1}, found{page(1, 2, 3, 9), which, 2})
	batch(t, "three:", s, items(odd, 2, 1, 2, 3, 4))
	check("six, one stripe:", 2,
		found{page(2, 0, 6, 7), 6, 0}, found{page(2, 1, 6, 9), 6, 1}, found{page(2, 2, 6, 1), 6, 2}, found{page(2, 3, 6, 2), 6, 3},
		found{page(2, 4, 6, 3), which, 3}, found{page(2, 5, 6, 4), which, 4})
	if !slices.Equal(s.Staged(), []uint32{3, 4}) {
		t.Error(s.Staged())
	}
	for n := range uint32(5) { // 5 more are staged: all that there is room for
		batch(t, "again:", s, items(odd, 3, 4))
		check("it is staged again:", 3+n, found{page(3+n, 0, 1, 4), which, 5 + int(n)})
	}
	batch(t, "no room:", s, items(odd, 4, 3))
	fill := record.Header{Kind: record.Fill, Epoch: s.Epoch(), Batch: 8}
	check("there is no room:", 8, found{page(8, 0, 2, 4), 6, 4}, found{page(8, 1, 2, 3), 6, 5}, found{fill, 6, 6}, found{fill, 6, 7})
	if len(s.Staged()) != 0 {
		t.Error(s.Staged())
	}
	right(t, "no room:", odd, s)
}

// P16.1: batches of one block up to more than a stripe has, ahead of which so many are staged: what is written, and what is staged.
func TestSizes(t *testing.T) {
	for _, g := range small {
		w := geom.Width(g)
		for old := range w {
			for _, n := range []int{1, w - 1, w, w + 1, 2*w - 1, 2 * w, 2*w + 1} {
				if n < 1 || old+n > api.MaxBatch {
					continue
				}
				x := newWalk(t, g)
				x.what = fmt.Sprint(g, old, n)
				if old > 0 {
					x.batch(span(x.s, 0, old))
				}
				x.batch(span(x.s, old, n))
				if many := len(x.s.Staged()); many != (old+n)%w {
					t.Error(x.what, many, "are staged")
				}
				x.check()
				x.mount()
				x.check()
			}
		}
	}
}

// P16.1: what is staged is written again, alone, with others, and in another order.
func TestStagedAgain(t *testing.T) {
	for _, l := range [][]uint32{{0}, {1}, {2, 0}, {1, 2, 0}, {3, 1}, {0, 1, 2, 3}, {5, 6, 7, 2}, {0, 5, 6, 7, 8, 9, 10, 11}} {
		w := newWalk(t, odd)
		w.batch([]uint32{0, 1, 2})
		w.batch(l)
		w.check()
		w.batch(l)
		w.check()
		w.mount()
		w.check()
	}
}

// P16.1: as many pages are staged as there is room for, and one more.
func TestStagedAll(t *testing.T) {
	for _, g := range small {
		for _, n := range []int{1, geom.Width(g) - 1} {
			w := newWalk(t, g)
			for staged := n; staged <= w.s.Most(); staged += n {
				w.batch(span(w.s, 3, n))
				if len(w.s.Staged()) != n {
					t.Error(g, staged, "aren't staged")
				}
			}
			w.check()
			w.batch(span(w.s, 3, n))
			if len(w.s.Staged()) != 0 {
				t.Error(g, "more are staged than there is room for")
			}
			w.check()
			w.mount()
			w.check()
			w.batch(span(w.s, 3, n))
			if len(w.s.Staged()) != n {
				t.Error(g, "there is no room behind a point")
			}
		}
	}
}

// P16.1: a stripe that is a segment's last row, and the next one: the segment stays open till then.
func TestLastRow(t *testing.T) {
	for _, g := range small {
		w := newWalk(t, g)
		width := geom.Width(g)
		for row := range g.Pages {
			if _, rows := w.s.Space(); rows != (geom.Segments(g)*g.Pages)-row {
				t.Error(g, row, rows)
			}
			w.batch(span(w.s, 0, width))
			if at, ok := w.s.Where(uint32(width - 1)); !ok || at != (geom.Place{Seg: 6, Row: row, Slot: width - 1}) {
				t.Error(g, at, ok)
			}
		}
		if x := w.s.Segs(); x[0].Kind != 1 || x[0].Live != width || x[1].Kind != 0 || x[1].Erases != 0 {
			t.Error(g, x)
		}
		w.d.erased = nil
		w.batch(span(w.s, 0, width))
		if x := w.s.Segs(); x[0].Kind != 2 || x[0].Live != 0 || x[1].Kind != 1 || x[1].Erases != 1 || !slices.Equal(w.d.erased, []int{7}) {
			t.Error(g, x, w.d.erased)
		}
		w.check()
	}
}

// P16.1: a batch of nothing, of drops alone; drops of what is staged, of what is at a place, of what is nowhere; one twice.
func TestDrops(t *testing.T) {
	w := newWalk(t, odd)
	ops := w.d.ops
	w.batch(nil)
	w.batch([]uint32{}, []uint32{}...)
	w.batch(nil, 7, 7, 7)
	if w.d.ops != ops || w.s.Stats().Batches != 0 {
		t.Error("something is written", w.s.Stats())
	}
	w.batch([]uint32{0, 1, 2, 3, 4, 5})
	w.check()
	ops = w.d.ops
	w.batch(nil, 1, 4, 1, 30)
	w.check()
	if w.d.ops < ops || !slices.Equal(w.s.Staged(), []uint32{5}) {
		t.Error(w.s.Staged())
	}
	w.batch([]uint32{4, 6}, 5, 0, 5)
	if !slices.Equal(w.s.Staged(), []uint32{4, 6}) {
		t.Error(w.s.Staged())
	}
	w.check()
	w.point()
	w.mount()
	w.check()
	// What waited is written with a batch that gives it up.
	w.batch([]uint32{10})
	w.batch([]uint32{11, 12, 13}, 10)
	w.check()
	w.batch(nil, span(w.s, 0, w.s.Blocks())...)
	w.check()
	if used, _ := w.s.Space(); used != 0 {
		t.Error(used)
	}
}

// P16.1: batches that may not be: nothing is changed, and what may be is written then.
func TestRefused(t *testing.T) {
	w := newWalk(t, odd)
	w.batch([]uint32{0, 1, 2, 3, 4, 5})
	ops := w.d.ops
	long, short := items(odd, 9, 7, 8), items(odd, 9, 7, 8)
	long[1].Data = append(long[1].Data, 0)
	short[1].Data = short[1].Data[1:]
	for _, x := range []struct {
		what  string
		l     []store.Item
		drops []uint32
	}{
		{"one more than may be", items(odd, 9, span(w.s, 0, api.MaxBatch+1)...), nil},
		{"all blocks", items(odd, 9, span(w.s, 0, w.s.Blocks())...), nil},
		{"a byte more", long, nil},
		{"a byte less", short, nil},
		{"no bytes", []store.Item{{Block: 1, Data: nil}}, nil},
		{"nothing", []store.Item{{}}, nil},
		{"a block twice", items(odd, 9, 7, 8, 7), nil},
		{"a block twice, side by side", items(odd, 9, 7, 7), nil},
		{"a drop that is in it", items(odd, 9, 7, 8), []uint32{8}},
		{"a drop that is in it, behind others", items(odd, 9, 7, 8), []uint32{1, 2, 7}},
		{"no such block", items(odd, 9, 7, 40), nil},
		{"no such drop", items(odd, 9, 7), []uint32{1, 40}},
		{"no such drop, alone", nil, []uint32{1, 40}},
	} {
		if e := w.s.Batch(x.l, x.drops...); e != api.Range {
			t.Error(x.what, e)
		}
		w.same()
	}
	if w.d.ops != ops {
		t.Error("something is written")
	}
	w.check()
	w.batch(span(w.s, 3, api.MaxBatch), 0, 0, 1)
	w.check()
}

// P16.1: Get asks whether what stands there is this block.
func TestOtherBlock(t *testing.T) {
	other := func(d *members, seg, row, slot int, h record.Header) {
		m := geom.Member(odd, geom.Place{Seg: seg, Row: row, Slot: slot})
		p := d.pages[spot{m, seg, row}]
		p.Oob = record.Seal(h, p.Data, nil)
		d.pages[spot{m, seg, row}] = p
	}
	for _, x := range []struct {
		what string
		by   func(d *members)
		bad  uint32
	}{
		{"another block", func(d *members) { other(d, 6, 0, 1, record.Header{Kind: record.Data, Epoch: 1, Block: 7}) }, 1},
		{"another kind", func(d *members) { other(d, 6, 0, 1, record.Header{Kind: record.Fill, Epoch: 1, Block: 1}) }, 1},
		{"two of a stripe are spoilt", func(d *members) { d.spoil(0, 6, 0); d.spoil(1, 6, 0) }, 0},
		{"both of a pair are spoilt", func(d *members) { d.spoil(0, 5, 0); d.spoil(1, 5, 0) }, 4},
	} {
		d, s := format(t, odd)
		batch(t, x.what, s, items(odd, 1, 0, 1, 2, 3, 4, 5))
		x.by(d)
		if ok, e := s.Check(); ok || e != api.OK {
			t.Error(x.what, "Check:", ok, e)
		}
		holds(t, x.what, s, 5, 1)
		if data, e := s.Get(x.bad); data != nil || e != api.IO {
			t.Error(x.what, len(data), e)
		}
		// That stays.
		if data, e := s.Get(5); data != nil || e != api.IO {
			t.Error(x.what, "then", len(data), e)
		}
	}
}

// P16.1, P16.2: a page that is spoilt is read all the same.
func TestSpoiltIsRead(t *testing.T) {
	for m := range odd.Chips {
		d, s := format(t, odd)
		batch(t, "spoilt:", s, items(odd, 1, 0, 1, 2, 3, 4, 5))
		d.spoil(m, 6, 0)
		if m < 4 {
			d.spoil(m, 5, 0)
		}
		for b := range uint32(6) {
			holds(t, fmt.Sprint(m, " is spoilt:"), s, b, 1)
		}
	}
}

// P16.1: a staged page stands in the block of its epoch, a stripe is whole and even.
func TestWhereItStands(t *testing.T) {
	d, s := format(t, odd)
	for n := range 5 {
		batch(t, "staged:", s, items(odd, n, 1, 2))
		for which := range 2 {
			l, e := stage.All(d, which)
			if e != api.OK || which == int(s.Epoch()%2) && len(l) != 2 {
				t.Error(n, which, len(l), e)
			}
		}
		if e := s.Point(); e != api.OK {
			t.Fatal(e)
		}
		if l, e := stage.All(d, int(s.Epoch()%2)); e != api.OK || len(l) != 0 {
			t.Error(n, len(l), e)
		}
		at, ok := s.Where(2)
		if even, e := stripe.Even(d, at.Seg, at.Row); !ok || !even || e != api.OK {
			t.Error(n, at, ok, even, e)
		}
	}
}

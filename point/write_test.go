package point_test

import (
	"bytes"
	"slices"
	"testing"

	"gabion/api"
	"gabion/geom"
	"gabion/point"
	"gabion/stripe"
)

// counts: how many pages the points have that are written below: one, a stripe's edges, all that have room.
func counts(g api.Geo) []int {
	w, all := geom.Width(g), geom.Pages(g)
	return []int{1, 2, w - 1, w, w + 1, 2*w - 1, 2 * w, all - w, all - 1, all}
}

// P14.1: the segment is erased, and then the bytes are stripes from row 0 on: each page once, filled up; nothing else is touched.
func TestWrite(t *testing.T) {
	for _, g := range shapes {
		for i, many := range counts(g) {
			for _, short := range []int{0, 4, g.Size - 4} {
				seq := uint32(50 + i + short/4%2)
				p := sized(seq, max(many*g.Size-short, 16))
				d := newMembers(g)
				put(t, d, p)
				seg := 2 + int(seq%2)
				want := newMembers(g)
				lay(t, want, seg, seq, parts(g, p)...)
				if !slices.Equal(d.erased, []int{seg}) || !slices.Equal(d.done, want.done) || len(d.read) > 0 {
					t.Error(g, seq, many, "erases", d.erased, "programs", len(d.done), "reads", len(d.read))
				}
				alike(t, d, want)
				reads(t, "written:", d, int(seq%2), p, seq)
				readsNone(t, "the other one:", d, 1-int(seq%2), 0)
				last(t, "written:", d, p, seq)
			}
		}
	}
}

// alike: have two members the same pages?
func alike(t *testing.T, d, want *members) {
	t.Helper()
	if len(d.pages) != len(want.pages) {
		t.Error(d.geo, len(d.pages), "pages, not", len(want.pages))
	}
	for at, p := range want.pages {
		if q := d.pages[at]; !bytes.Equal(p.Data, q.Data) || !bytes.Equal(p.Oob, q.Oob) {
			t.Error(d.geo, at, "has another page")
		}
	}
}

// P14.1: the chapter's words, page by page: 70 numbers are two pages of 256 bytes; a stripe has three.
func TestWritePages(t *testing.T) {
	p := point.Point{Seq: 7, Batch: 9, Map: numbers(50, 1), Erases: numbers(20, 2)}
	d := newMembers(even)
	put(t, d, p)
	l, kind, e := stripe.Row(d, 3, 0)
	if e != api.OK || kind != stripe.Whole || len(l) != 3 {
		t.Fatal(kind, len(l), e)
	}
	b := append(p.Encode(), make([]byte, 512)...)
	for i, h := range []struct {
		kind         uint8
		index, count uint16
		data         []byte
	}{{3, 0, 2, b[:256]}, {3, 1, 2, b[256:512]}, {6, 0, 0, make([]byte, 256)}} {
		x := l[i].Head
		if x.Kind != h.kind || x.Epoch != 7 || x.Batch != 0 || x.Index != h.index || x.Count != h.count || x.Block != 0 || x.More != 0 || !bytes.Equal(l[i].Data, h.data) {
			t.Error(i, x)
		}
	}
	for row := 1; row < even.Pages; row++ {
		if _, kind, e := stripe.Row(d, 3, row); kind != stripe.Blank || e != api.OK {
			t.Error(row, kind, e)
		}
	}
}

// P14.1: points of all kinds, with the least and the greatest number, and no numbers at all.
func TestWriteSome(t *testing.T) {
	for _, g := range shapes {
		for _, p := range append(some(), point.Point{Seq: top - 1}, point.Point{Seq: 2, Batch: 1}) {
			d := newMembers(g)
			if 16+4*(len(p.Map)+len(p.Erases)) > geom.Pages(g)*g.Size {
				continue
			}
			put(t, d, p)
			reads(t, "written:", d, int(p.Seq%2), p, p.Seq)
			last(t, "written:", d, p, p.Seq)
			if !slices.Equal(d.erased, []int{2 + int(p.Seq%2)}) {
				t.Error(p.Seq, d.erased)
			}
		}
	}
}

// P14.1: as many pages as a segment has, and one more: nothing is touched then.
func TestWriteNoSpc(t *testing.T) {
	for _, g := range shapes {
		d := newMembers(g)
		first, full := paged(g, 8, 1), paged(g, 9, geom.Pages(g))
		put(t, d, first)
		put(t, d, full)
		ops := d.ops
		for _, more := range []int{4, 8, g.Size, 10 * g.Size, 1 << 20} {
			for _, seq := range []uint32{8, 9, 10, 11} {
				p := sized(seq, geom.Pages(g)*g.Size+more)
				if e := point.Write(d, p); e != api.NoSpc {
					t.Error(g, seq, more, e)
				}
				// All of them in one row of the two.
				p.Map, p.Erases = append(slices.Clone(p.Map), p.Erases...), nil
				if e := point.Write(d, p); e != api.NoSpc {
					t.Error(g, seq, more, e)
				}
			}
		}
		if d.ops != ops {
			t.Error(g, "something is touched")
		}
		reads(t, "kept:", d, 0, first, 8)
		reads(t, "kept:", d, 1, full, 9)
	}
}

// P14.1: points one behind the other: each takes the place of the one before the last; with the same number once more, its own.
func TestWriteMany(t *testing.T) {
	for _, g := range shapes {
		d := newMembers(g)
		lastNone(t, "nothing was written:", d, 0)
		var were [2]point.Point
		for seq := uint32(1); seq < 12; seq++ {
			for n := range 2 {
				p := paged(g, seq, 1+(int(seq)*5+n*3)%geom.Pages(g))
				p.Batch += uint32(n)
				put(t, d, p)
				reads(t, "written:", d, int(seq%2), p, seq)
				last(t, "written:", d, p, seq)
				were[seq%2] = p
			}
			if seq > 1 {
				reads(t, "the one ahead:", d, int(1-seq%2), were[1-seq%2], seq-1)
			}
		}
		// A lesser number is written, too, where it belongs.
		p := paged(g, 4, 1)
		put(t, d, p)
		reads(t, "a lesser one:", d, 0, p, 4)
		last(t, "a lesser one:", d, were[1], 11)
	}
}

// P14.1: the member that is to be ahead is.
func TestWriteAhead(t *testing.T) {
	for first := range odd.Chips {
		d := led{newMembers(odd), first}
		p := paged(odd, 6, 6)
		put(t, d, p)
		reads(t, "written:", d, 0, p, 6)
		for row := range 2 {
			if at := d.done[row*odd.Chips]; at != (place{first, 2, row}) {
				t.Error(first, row, at)
			}
		}
	}
}

// P14.2, P4: any one member is dead, from the beginning or from any operation on: the point is written, and read. Two are: Lost.
func TestWriteDead(t *testing.T) {
	for _, g := range []api.Geo{least, even, odd} {
		before, p := paged(g, 5, 3), paged(g, 6, geom.Pages(g)-1)
		whole := newMembers(g)
		put(t, whole, before)
		put(t, whole, p)
		for one := range g.Chips {
			for op := range whole.ops + 2 {
				d := newMembers(g)
				d.dies[one] = op
				put(t, d, before)
				last(t, "one is dead:", d, before, 5)
				put(t, d, p)
				last(t, "one is dead:", d, p, 6)
				reads(t, "one is dead:", d, 1, before, 5)
			}
			for other := range g.Chips {
				d := newMembers(g)
				d.dead[one], d.dead[other] = true, true
				want := api.OK
				if one != other {
					want = api.Lost
				}
				if e := point.Write(d, p); e != want {
					t.Error(g, one, other, e)
				}
				if p, ok, n, e := point.Last(d); e != want || ok != (want == api.OK) || !ok && (n != 0 || !none(p)) {
					t.Error(g, one, other, "Last:", p.Seq, ok, n, e)
				}
			}
		}
	}
}

// P14.1: other errors come through; one of Erase ends it ahead of all pages.
func TestWriteErrors(t *testing.T) {
	g := even
	for _, want := range []api.Errno{api.IO, api.Nil, api.Range, api.Fail, api.Crash, api.Order, api.Lost, api.Dead, api.NoSpc, -3, 1000} {
		d := newMembers(g)
		d.erase = want
		if e := point.Write(d, paged(g, 6, 5)); e != want || len(d.done) > 0 {
			t.Error("Erase:", want, e, d.done)
		}
		for m := range g.Chips {
			if want == api.Dead {
				continue
			}
			d := newMembers(g)
			d.wrong[m] = want
			if e := point.Write(d, paged(g, 6, 5)); e != want || len(d.done) != m+1 {
				t.Error("Program:", want, m, e, d.done)
			}
		}
	}
}

// once is members of which an operation ends with an error, and so do all behind it.
type once struct {
	*members
	op int
	e  api.Errno
}

func (d once) Erase(block int) api.Errno {
	if d.ops+1 >= d.op {
		d.ops++
		return d.e
	}
	return d.members.Erase(block)
}

func (d once) Program(m, block, page int, data, oob []byte) api.Errno {
	if d.ops+1 >= d.op {
		d.ops++
		return d.e
	}
	return d.members.Program(m, block, page, data, oob)
}

// P14.2: an error at any operation ends it there; the other point is the last, till the last page is there.
func TestWriteEnds(t *testing.T) {
	g := even
	for _, many := range []int{1, 3, 4, 12} {
		a, b, c := paged(g, 5, 2), paged(g, 6, 3), paged(g, 7, many)
		ops := 1 + (many+2)/3*g.Chips
		for op := 1; op <= ops; op++ {
			d := once{newMembers(g), 0, api.Crash}
			put(t, d.members, a)
			put(t, d.members, b)
			d.op = d.ops + op
			if e := point.Write(d, c); e != api.Crash || d.ops != d.op {
				t.Error(many, op, e, d.ops)
			}
			// Row by row what is there can be read, but nothing is a point.
			most := uint32(7)
			if op <= 1+g.Chips {
				most = 0
			}
			if op > 1 {
				readsNone(t, "it was cut off:", d, 1, most)
				last(t, "it was cut off:", d, b, max(most, 6))
			} else {
				reads(t, "nothing was done:", d, 1, a, 5)
				last(t, "nothing was done:", d, b, 6)
			}
			put(t, d.members, c)
			last(t, "once more:", d, c, 7)
		}
	}
}

// keeper is a Dev that makes all bytes that it gets others.
type keeper struct{ *members }

func (d keeper) Program(m, block, page int, data, oob []byte) api.Errno {
	e := d.members.Program(m, block, page, data, oob)
	for i := range data[:cap(data)] {
		data[:cap(data)][i] ^= 0xEE
	}
	for i := range oob[:cap(oob)] {
		oob[:cap(oob)][i] ^= 0xEE
	}
	return e
}

// P1 (rule 4): a point that is handed in isn't changed, and not kept; what is answered is new memory.
func TestWriteMemory(t *testing.T) {
	d := keeper{newMembers(least)}
	all := numbers(200, 1)
	was := slices.Clone(all)
	p := point.Point{Seq: 6, Batch: 1, Map: all[:90:120], Erases: all[120:150]}
	kept := point.Point{Seq: 6, Batch: 1, Map: was[:90], Erases: was[120:150]}
	put(t, d, p)
	if !slices.Equal(all, was) {
		t.Error("Write changes a point")
	}
	clear(all)
	for range 2 {
		got, ok, most, e := point.Last(d)
		if e != api.OK || !ok || most != 6 || !same(got, kept) {
			t.Fatal(got, ok, most, e)
		}
		clear(got.Map[:cap(got.Map)])
		if !slices.Equal(got.Erases, kept.Erases) {
			t.Error("two lists of an answer share memory")
		}
		clear(got.Erases[:cap(got.Erases)])
	}
}

// P1: no Dev is told as Nil, ahead of all else; members of a shape that is none as Range: nothing is touched.
func TestWrong(t *testing.T) {
	for _, p := range append(some(), sized(1, 1<<20)) {
		if e := point.Write(nil, p); e != api.Nil {
			t.Error(p.Seq, e)
		}
		for _, g := range noShapes {
			d := newMembers(g)
			if e := point.Write(d, p); e != api.Range || d.ops > 0 {
				t.Error(g, p.Seq, e, d.ops)
			}
		}
	}
	for _, which := range []int{-1, 0, 1, 2} {
		if p, ok, n, e := point.Read(nil, which); e != api.Nil || ok || n != 0 || !none(p) {
			t.Error(which, p, ok, n, e)
		}
	}
	if p, ok, n, e := point.Last(nil); e != api.Nil || ok || n != 0 || !none(p) {
		t.Error(p, ok, n, e)
	}
	for _, g := range noShapes {
		for _, which := range []int{-1, 0, 1, 2} {
			if p, ok, n, e := point.Read(newMembers(g), which); e != api.Range || ok || n != 0 || !none(p) {
				t.Error(g, which, p, ok, n, e)
			}
		}
		if p, ok, n, e := point.Last(newMembers(g)); e != api.Range || ok || n != 0 || !none(p) {
			t.Error(g, p, ok, n, e)
		}
	}
}

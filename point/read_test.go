package point_test

import (
	"math"
	"testing"

	"gabion/api"
	"gabion/geom"
	"gabion/point"
	"gabion/record"
	"gabion/stripe"
)

// P14.1: of which segments there may be a point.
func TestReadRange(t *testing.T) {
	for _, g := range shapes {
		d := newMembers(g)
		put(t, d, paged(g, 6, 2))
		put(t, d, paged(g, 7, 2))
		for _, which := range []int{-1, 2, 3, -2, 4, math.MinInt, math.MaxInt} {
			d.read = nil
			if p, ok, n, e := point.Read(d, which); e != api.Range || ok || n != 0 || !none(p) || len(d.read) > 0 {
				t.Error(g, which, p, ok, n, e)
			}
		}
	}
}

// P14.1: each of both segments has its own.
func TestReadEach(t *testing.T) {
	for _, g := range shapes {
		d := newMembers(g)
		a, b := paged(g, 12, 2), paged(g, 7, 3)
		put(t, d, a)
		put(t, d, b)
		reads(t, "even:", d, 0, a, 12)
		reads(t, "odd:", d, 1, b, 7)
		last(t, "the greater one:", d, a, 12)
		c := paged(g, 13, 1)
		put(t, d, c)
		reads(t, "odd:", d, 1, c, 13)
		last(t, "the greater one:", d, c, 13)
		for at := range d.pages {
			if at.block != 2 && at.block != 3 {
				t.Error(g, at, "is written")
			}
		}
	}
}

// P14.1: what stands in other segments is nothing to it.
func TestReadOthers(t *testing.T) {
	g := even
	d := newMembers(g)
	for _, seg := range []int{0, 1, 4, 5, 6, 7} {
		lay(t, d, seg, 99, parts(g, paged(g, 99, 3))...)
	}
	lastNone(t, "other segments:", d, 0)
	p := paged(g, 6, 2)
	put(t, d, p)
	last(t, "other segments:", d, p, 6)
}

// with: pages, one of them another header's.
func with(l []stripe.Page, at int, change func(h *record.Header)) []stripe.Page {
	l = append([]stripe.Page{}, l...)
	change(&l[at].Head)
	return l
}

// P14.1: pages that aren't a point's, at each place: another kind, another Index, another Count, another Epoch.
func TestReadPages(t *testing.T) {
	g := even
	p := paged(g, 7, 5)
	l := parts(g, p)
	for which := range 2 {
		for at := range l {
			for _, x := range []struct {
				what   string
				change func(h *record.Header)
				most   uint32
				ok     bool
			}{
				{"as they are", func(*record.Header) {}, 7, true},
				{"a table", func(h *record.Header) { h.Kind = record.Table }, 7, false},
				{"a member", func(h *record.Header) { h.Kind = record.Member }, 7, false},
				{"data", func(h *record.Header) { h.Kind = record.Data }, 7, false},
				{"parity", func(h *record.Header) { h.Kind = record.Parity }, 7, false},
				{"a fill", func(h *record.Header) { h.Kind = record.Fill }, 7, false},
				{"one Index more", func(h *record.Header) { h.Index++ }, 7, false},
				{"one Index less", func(h *record.Header) { h.Index-- }, 7, false},
				{"a far Index", func(h *record.Header) { h.Index += 256 }, 7, false},
				{"one Count more", func(h *record.Header) { h.Count++ }, 7, false},
				{"one Count less", func(h *record.Header) { h.Count-- }, 7, false},
				{"no Count", func(h *record.Header) { h.Count = 0 }, 7, false},
				{"the greatest Count", func(h *record.Header) { h.Count = math.MaxUint16 }, 7, false},
				{"a greater Epoch", func(h *record.Header) { h.Epoch = 8 }, 8, false},
				{"a far Epoch", func(h *record.Header) { h.Epoch = top }, top, false},
				{"a lesser Epoch", func(h *record.Header) { h.Epoch = 6 }, 7, true},
				{"no Epoch", func(h *record.Header) { h.Epoch = 0 }, 7, true},
				{"another Batch", func(h *record.Header) { h.Batch = 3 }, 7, true},
				{"another Block", func(h *record.Header) { h.Block = 3 }, 7, true},
				{"something more", func(h *record.Header) { h.More = 3 }, 7, true},
			} {
				d := newMembers(g)
				lay(t, d, 2+which, 7, with(l, at, x.change)...)
				if x.ok {
					reads(t, x.what, d, which, p, x.most)
					last(t, x.what, d, p, x.most)
				} else {
					readsNone(t, x.what, d, which, x.most)
					lastNone(t, x.what, d, x.most)
				}
				readsNone(t, "the other one:", d, 1-which, 0)
			}
		}
	}
}

// P14.1: pages behind the point's are asked for their Epoch only, of all rows that are whole.
func TestReadBehind(t *testing.T) {
	g := even
	for _, many := range []int{1, 2, 3, 4, 6} {
		p := paged(g, 7, many)
		l := parts(g, p)
		for at := many; at < geom.Pages(g); at++ {
			for _, kind := range []uint8{record.Table, record.Point, record.Data, record.Fill, record.Parity} {
				for epoch, most := range map[uint32]uint32{0: 7, 6: 7, 7: 7, 8: 8, top: top} {
					all := append([]stripe.Page{}, l...)
					for len(all) < at {
						all = append(all, stripe.Fill(g, 7, 0))
					}
					x := stripe.Fill(g, epoch, 0)
					x.Head.Kind = kind
					d := newMembers(g)
					lay(t, d, 2, 7, append(all, x)...)
					if most == 7 {
						reads(t, "a page behind:", d, 0, p, most)
					} else {
						readsNone(t, "a page behind:", d, 0, most)
					}
				}
			}
		}
	}
}

// P14.1: all pages have a lesser Epoch than the point's Seq, or a greater one; the segment isn't that of its number.
func TestReadSeq(t *testing.T) {
	g := even
	p := paged(g, 7, 4)
	for _, epoch := range []uint32{0, 6, 7, 8, top} {
		l := parts(g, p)
		for i := range l {
			l[i].Head.Epoch = epoch
		}
		for which := range 2 {
			d := newMembers(g)
			lay(t, d, 2+which, epoch, l...)
			if epoch == 7 {
				reads(t, "its own:", d, which, p, 7)
			} else {
				readsNone(t, "another one:", d, which, epoch)
			}
		}
	}
	// Fill has the point's number, all of its own pages have not.
	l := parts(g, p)
	for i := range l {
		l[i].Head.Epoch = 5
	}
	d := newMembers(g)
	lay(t, d, 2, 7, l...)
	reads(t, "only what fills it up has its number:", d, 0, p, 7)
}

// P14.1: fewer pages than there must be, none at all, the same ones in another order.
func TestReadFewer(t *testing.T) {
	for _, g := range []api.Geo{least, even, odd} {
		w := geom.Width(g)
		l := parts(g, paged(g, 6, 2*w+1))
		readsNone(t, "nothing:", newMembers(g), 0, 0)
		for n := w; n < len(l); n += w {
			d := newMembers(g)
			lay(t, d, 2, 6, l[:n]...)
			readsNone(t, "fewer:", d, 0, 6)
		}
		d := newMembers(g)
		lay(t, d, 2, 6, append(append([]stripe.Page{}, l[1:]...), l[0])...)
		readsNone(t, "in another order:", d, 0, 6)
		d = newMembers(g)
		lay(t, d, 2, 6, append([]stripe.Page{stripe.Fill(g, 6, 0)}, l...)...)
		readsNone(t, "the first is another one:", d, 0, 6)
	}
}

// P14.1: bytes that are no point; what is behind isn't 0.
func TestReadForm(t *testing.T) {
	g := even
	for _, x := range []struct {
		what string
		ok   bool
		b    []byte
	}{
		{"a point", true, laid(7, 9, 1, 1, 5, 6)},
		{"counts too great", false, laid(7, 9, 100, 1, 5, 6)},
		{"the greatest counts", false, laid(7, 9, top, top, 5, 6)},
		{"counts too small", false, laid(7, 9, 1, 0, 5, 6)},
		{"another byte at the end", false, append(laid(7, 9, 1, 1, 5, 6), append(make([]byte, 231), 1)...)},
	} {
		data := append(x.b, make([]byte, g.Size-len(x.b))...)
		d := newMembers(g)
		h := record.Header{Kind: record.Point, Epoch: 7, Count: 1}
		lay(t, d, 3, 7, stripe.Page{Head: h, Data: data})
		if x.ok {
			reads(t, x.what, d, 1, point.Point{Seq: 7, Batch: 9, Map: []uint32{5}, Erases: []uint32{6}}, 7)
		} else {
			readsNone(t, x.what, d, 1, 7)
			lastNone(t, x.what, d, 7)
		}
	}
}

// P14.1: a row that isn't Whole ends it: those behind aren't read, nor their Epochs.
func TestReadRows(t *testing.T) {
	g := even
	w := geom.Width(g)
	p := paged(g, 6, 2*w)
	for row := range g.Pages {
		for _, how := range []string{"torn", "blank"} {
			d := newMembers(g)
			l := parts(g, p)
			l = append(l, stripe.Fill(g, 6, 0), stripe.Fill(g, 6, 0), stripe.Fill(g, 6, 0), stripe.Fill(g, 20, 0))
			lay(t, d, 2, 6, l...)
			for m := range g.Chips {
				if how == "blank" {
					delete(d.pages, place{m, 2, row})
				} else if m < 2 {
					d.spoil(m, 2, row, 5)
				}
			}
			switch {
			case row == 0:
				readsNone(t, how, d, 0, 0)
			case row < 2:
				readsNone(t, how, d, 0, 6)
			default:
				reads(t, how, d, 0, p, 6)
			}
		}
	}
}

// P14.1, P4: one page is spoilt, also the one with the parity: its row isn't Whole, and ends it; so it is with another member dead. If it was the dead one's, it is made again.
func TestReadSpoilt(t *testing.T) {
	g := odd
	p, other := paged(g, 6, 7), paged(g, 5, 2)
	for m := range g.Chips {
		for row := range 2 {
			d := newMembers(g)
			put(t, d, other)
			put(t, d, p)
			d.spoil(m, 2, row, 100)
			most := uint32(6)
			if row == 0 {
				most = 0
			}
			readsNone(t, "spoilt:", d, 0, most)
			last(t, "spoilt:", d, other, max(most, 5))
			d.dead[m] = true
			reads(t, "spoilt and dead:", d, 0, p, 6)
			last(t, "spoilt and dead:", d, p, 6)
			d.dead[m], d.dead[(m+1)%g.Chips] = false, true
			readsNone(t, "another one is dead:", d, 0, most)
			last(t, "another one is dead:", d, other, max(most, 5))
		}
	}
}

// P14.1: of neither, one, or both; what the greatest number then is.
func TestLast(t *testing.T) {
	g := least
	// Each segment: nothing; a point; pages that are none, of a number.
	kinds := []struct {
		whole bool
		seq   uint32
	}{{false, 0}, {true, 0}, {true, 6}, {true, 7}, {true, top}, {false, 3}, {false, 7}, {false, 9}, {false, top}}
	for _, a := range kinds {
		for _, b := range kinds {
			d := newMembers(g)
			var best point.Point
			found := false
			for which, x := range []struct {
				whole bool
				seq   uint32
			}{a, b} {
				p := paged(g, x.seq, 2)
				p.Batch = uint32(which)
				switch {
				case x.whole:
					lay(t, d, 2+which, x.seq, parts(g, p)...)
					if !found || x.seq > best.Seq {
						best, found = p, true
					}
				case x.seq > 0:
					lay(t, d, 2+which, x.seq, stripe.Fill(g, x.seq, 0))
				}
			}
			if found {
				last(t, "there is one:", d, best, max(a.seq, b.seq))
			} else {
				lastNone(t, "there is none:", d, max(a.seq, b.seq))
			}
		}
	}
}

// P14.1: the chapter's example, and example 6 of the whole.
func TestExample(t *testing.T) {
	for _, g := range shapes {
		d := once{newMembers(g), math.MaxInt, api.Crash}
		six, seven, eight := paged(g, 6, 2), paged(g, 7, 2), paged(g, 8, geom.Pages(g))
		put(t, d, six)
		put(t, d, seven)
		d.op = d.ops + 3
		if e := point.Write(d, eight); e != api.Crash {
			t.Error(g, e)
		}
		last(t, "8 is cut off:", d, seven, 7)
	}
}

// fading is members of which one read ends with an error.
type fading struct {
	*members
	at place
	e  api.Errno
}

func (d fading) Read(m, block, page int) (data, oob []byte, e api.Errno) {
	if d.at == (place{m, block, page}) {
		return nil, nil, d.e
	}
	return d.members.Read(m, block, page)
}

// P14.1: other errors come through, wherever they are met; those of rows that aren't read don't.
func TestReadErrors(t *testing.T) {
	g := even
	d := newMembers(g)
	a, b := paged(g, 6, 4), paged(g, 7, 2)
	put(t, d, a)
	put(t, d, b)
	rows := []int{3, 2} // with the blank one that ends it
	for _, want := range []api.Errno{api.IO, api.Nil, api.Range, api.Fail, api.Crash, api.Order, api.Lost, -3, 1000} {
		for m := range g.Chips {
			for which := range 2 {
				for row := range g.Pages {
					f := fading{d, place{m, 2 + which, row}, want}
					if row >= rows[which] {
						last(t, "behind what is read:", f, b, 7)
						continue
					}
					if p, ok, n, e := point.Read(f, which); e != want || ok || n != 0 || !none(p) {
						t.Error(want, f.at, "Read:", p.Seq, ok, n, e)
					}
					if p, ok, n, e := point.Last(f); e != want || ok || n != 0 || !none(p) {
						t.Error(want, f.at, "Last:", p.Seq, ok, n, e)
					}
				}
			}
		}
	}
}

// P14.1: pages that a Dev hands out, and then makes others, aren't kept.
func TestReadMemory(t *testing.T) {
	d := lender{newMembers(least)}
	p := paged(least, 6, 5)
	put(t, d, p)
	for range 2 {
		got, ok, _, e := point.Read(d, 0)
		if e != api.OK || !ok || !same(got, p) {
			t.Fatal(ok, e)
		}
		for i := range got.Map {
			got.Map[i] = 1
		}
		clear(got.Erases)
	}
}

// lender is a Dev that hands out what it keeps.
type lender struct{ *members }

func (d lender) Read(m, block, page int) (data, oob []byte, e api.Errno) {
	if p, ok := d.pages[place{m, block, page}]; ok {
		return p.Data, p.Oob, api.OK
	}
	return d.members.Read(m, block, page)
}

package stripe_test

import (
	"bytes"
	"maps"
	"slices"
	"testing"

	"gabion/api"
	"gabion/geom"
	"gabion/parity"
	"gabion/record"
	"gabion/stripe"
)

// reads: each page of a stripe is read as it was written.
func reads(t *testing.T, what string, d stripe.Dev, seg, row int, l []stripe.Page) {
	t.Helper()
	for slot, want := range l {
		if p, e := stripe.Read(d, geom.Place{Seg: seg, Row: row, Slot: slot}); e != api.OK || !same(p, want) {
			t.Error(what, d.Geo(), seg, row, "slot", slot, e)
		}
	}
}

// whole: a stripe is, with these pages, and even.
func whole(t *testing.T, what string, d stripe.Dev, seg, row int, l []stripe.Page) {
	t.Helper()
	if got, kind, e := stripe.Row(d, seg, row); e != api.OK || kind != stripe.Whole || !slices.EqualFunc(got, l, same) {
		t.Error(what, d.Geo(), seg, row, "Row:", len(got), kind, e)
	}
	if even, e := stripe.Even(d, seg, row); e != api.OK || !even {
		t.Error(what, d.Geo(), seg, row, "Even:", even, e)
	}
}

// not: a stripe isn't whole: it is of another kind, with no pages, and not even.
func not(t *testing.T, what string, d stripe.Dev, seg, row, want int) {
	t.Helper()
	if l, kind, e := stripe.Row(d, seg, row); e != api.OK || kind != want || len(l) > 0 {
		t.Error(what, d.Geo(), seg, row, "Row:", len(l), kind, e)
	}
	if even, e := stripe.Even(d, seg, row); e != api.OK || even {
		t.Error(what, d.Geo(), seg, row, "Even:", even, e)
	}
}

// unread: a page of a stripe can't be read.
func unread(t *testing.T, what string, d stripe.Dev, p geom.Place, want api.Errno) {
	t.Helper()
	if got, e := stripe.Read(d, p); e != want || !empty(got) {
		t.Error(what, d.Geo(), p, got.Head, e)
	}
}

// unknown: it can't be told what a stripe is.
func unknown(t *testing.T, what string, d stripe.Dev, seg, row int, want api.Errno) {
	t.Helper()
	if l, kind, e := stripe.Row(d, seg, row); e != want || kind != 0 || len(l) > 0 {
		t.Error(what, d.Geo(), seg, row, "Row:", len(l), kind, e)
	}
	if even, e := stripe.Even(d, seg, row); e != want || even {
		t.Error(what, d.Geo(), seg, row, "Even:", even, e)
	}
}

// put lays a page on a member, sealed, whatever was there.
func (d *members) put(m, seg, row int, p stripe.Page) {
	d.pages[place{m, seg, row}] = parity.Page{Data: bytes.Clone(p.Data), Oob: record.Seal(p.Head, p.Data, nil)}
}

// P10.1, P10.2, P10.3: what was written is read as it stands, of that member alone; the stripe is whole, and even.
func TestRead(t *testing.T) {
	for _, g := range shapes {
		for _, x := range edges(g) {
			seg, row := x[0], x[1]
			d, l := written(t, g, seg, row)
			reads(t, "written:", d, seg, row, l)
			var want []place
			for slot := range l {
				want = append(want, place{geom.Member(g, geom.Place{Seg: seg, Row: row, Slot: slot}), seg, row})
			}
			if !slices.Equal(d.read, want) {
				t.Error(g, seg, row, "reads", d.read)
			}
			whole(t, "written:", d, seg, row, l)
			whole(t, "one is ahead:", led{d, 1}, seg, row, l)
			if len(d.done) != g.Chips {
				t.Error(g, seg, row, "programs", d.done)
			}
		}
	}
}

// P10.1: what isn't there.
func TestReadRange(t *testing.T) {
	for _, g := range shapes {
		d := newMembers(g)
		for _, x := range beyond(g) {
			unread(t, "no such stripe:", d, geom.Place{Seg: x[0], Row: x[1]}, api.Range)
			unknown(t, "no such stripe:", d, x[0], x[1], api.Range)
		}
		for _, slot := range []int{-1, geom.Width(g), g.Chips, -1 << 63, 1<<63 - 1} {
			unread(t, "no such slot:", d, geom.Place{Seg: 6, Slot: slot}, api.Range)
		}
		for m := range g.Chips {
			d.dead[m] = true
		}
		unread(t, "all are dead:", d, geom.Place{Seg: -1}, api.Range)
		unknown(t, "all are dead:", d, 0, g.Pages, api.Range)
		if len(d.read)+len(d.done) > 0 {
			t.Error(g, "reads", d.read, "programs", d.done)
		}
	}
	for _, g := range noShapes {
		d := newMembers(g)
		unread(t, "no shape:", d, geom.Place{}, api.Range)
		unknown(t, "no shape:", d, 0, 0, api.Range)
		if len(d.read) > 0 {
			t.Error(g, "reads", d.read)
		}
	}
}

// P10.2, P10.3, P4: any one member is dead, ahead of a write or behind it.
func TestReadDead(t *testing.T) {
	for _, g := range shapes {
		for _, x := range edges(g) {
			seg, row := x[0], x[1]
			behind, l := written(t, g, seg, row)
			for m := range g.Chips {
				behind.dead = map[int]bool{m: true}
				reads(t, "dead behind it:", behind, seg, row, l)
				whole(t, "dead behind it:", behind, seg, row, l)
				ahead := newMembers(g)
				ahead.dead[m] = true
				if e := stripe.Write(led{ahead, m}, seg, row, l...); e != api.OK {
					t.Error(g, seg, row, m, e)
				}
				reads(t, "dead ahead of it:", ahead, seg, row, l)
				whole(t, "dead ahead of it:", ahead, seg, row, l)
			}
		}
	}
}

// P10.1: of two that are dead only what stands on others is read.
func TestReadTwoDead(t *testing.T) {
	for _, g := range shapes[:3] {
		d, l := written(t, g, 6, 1)
		for a := range g.Chips {
			for b := range a {
				d.dead = map[int]bool{a: true, b: true}
				unknown(t, "two are dead:", d, 6, 1, api.Lost)
				for slot := range l {
					p := geom.Place{Seg: 6, Row: 1, Slot: slot}
					if d.dead[geom.Member(g, p)] {
						unread(t, "two are dead:", d, p, api.Lost)
					} else if got, e := stripe.Read(d, p); e != api.OK || !same(got, l[slot]) {
						t.Error(g, a, b, slot, e)
					}
				}
			}
		}
	}
}

// P10.1, P10.2: a page is spoilt, at any byte of it and beside it: it is read all the same, but the stripe is torn.
func TestReadSpoilt(t *testing.T) {
	d, l := written(t, least, 6, 1)
	for m := range least.Chips {
		for i := range least.Size + api.Oob {
			d.spoil(m, 6, 1, i)
			reads(t, "spoilt:", d, 6, 1, l)
			not(t, "spoilt:", d, 6, 1, stripe.Torn)
			d.spoil(m, 6, 1, i)
		}
	}
	whole(t, "as it was:", d, 6, 1, l)
	for _, g := range shapes {
		for _, x := range edges(g) {
			d, l := written(t, g, x[0], x[1])
			for m := range g.Chips {
				d.spoil(m, x[0], x[1], 7*m)
				reads(t, "spoilt:", d, x[0], x[1], l)
				not(t, "spoilt:", d, x[0], x[1], stripe.Torn)
				d.spoil(m, x[0], x[1], 7*m)
			}
		}
	}
}

// P10.1: two pages are spoilt, at any byte: neither is read, unless it is the parity.
func TestReadTwoSpoilt(t *testing.T) {
	for _, g := range shapes[:3] {
		d, l := written(t, g, 7, 0)
		for a := range g.Chips {
			for b := range a {
				for _, i := range []int{0, g.Size - 1, g.Size, g.Size + 31, g.Size + 32, g.Size + 63} {
					d.spoil(a, 7, 0, 3)
					d.spoil(b, 7, 0, i)
					not(t, "two are spoilt:", d, 7, 0, stripe.Torn)
					for slot := range l {
						p := geom.Place{Seg: 7, Slot: slot}
						if m := geom.Member(g, p); m == a || m == b {
							unread(t, "two are spoilt:", d, p, api.IO)
						} else if got, e := stripe.Read(d, p); e != api.OK || !same(got, l[slot]) {
							t.Error(g, a, b, slot, e)
						}
					}
					d.spoil(a, 7, 0, 3)
					d.spoil(b, 7, 0, i)
				}
			}
		}
	}
}

// P10.1: one page is spoilt while another's member is dead.
func TestReadSpoiltAndDead(t *testing.T) {
	for _, g := range shapes[:3] {
		d, l := written(t, g, 7, 3)
		for dead := range g.Chips {
			d.dead = map[int]bool{dead: true}
			for bad := range g.Chips {
				if bad == dead {
					continue
				}
				d.spoil(bad, 7, 3, 5)
				not(t, "spoilt and dead:", d, 7, 3, stripe.Torn)
				for slot := range l {
					p := geom.Place{Seg: 7, Row: 3, Slot: slot}
					switch geom.Member(g, p) {
					case dead:
						unread(t, "dead:", d, p, api.IO)
					case bad:
						unread(t, "spoilt:", d, p, api.Lost)
					default:
						if got, e := stripe.Read(d, p); e != api.OK || !same(got, l[slot]) {
							t.Error(g, dead, bad, slot, e)
						}
					}
				}
				d.spoil(bad, 7, 3, 5)
			}
		}
	}
}

// P1 (rule 1): Lost goes ahead of IO, and two that are dead ahead of one that is spoilt, whichever member is first.
func TestLostAheadOfIO(t *testing.T) {
	g := shapes[2]
	for own := range g.Chips {
		for dead := range g.Chips {
			for bad := range g.Chips {
				slot, ok := geom.Slot(g, 6, 0, own)
				if !ok || own == dead || own == bad || dead == bad {
					continue
				}
				d, _ := written(t, g, 6, 0)
				d.dead = map[int]bool{own: true, dead: true}
				d.spoil(bad, 6, 0, 9)
				unread(t, "two are dead, one is spoilt:", d, geom.Place{Seg: 6, Slot: slot}, api.Lost)
				unknown(t, "two are dead, one is spoilt:", d, 6, 0, api.Lost)
				delete(d.dead, own)
				d.spoil(own, 6, 0, 9)
				unread(t, "one is dead, two are spoilt:", d, geom.Place{Seg: 6, Slot: slot}, api.Lost)
			}
		}
	}
}

// P10.1: what was never written: blank, whoever is dead; nothing of it is read.
func TestRowBlank(t *testing.T) {
	for _, g := range shapes {
		for _, x := range edges(g) {
			d := newMembers(g)
			not(t, "never written:", d, x[0], x[1], stripe.Blank)
			for slot := range geom.Width(g) {
				unread(t, "never written:", d, geom.Place{Seg: x[0], Row: x[1], Slot: slot}, api.IO)
			}
			for m := range g.Chips {
				d.dead = map[int]bool{m: true}
				not(t, "never written, one dead:", d, x[0], x[1], stripe.Blank)
				for slot := range geom.Width(g) {
					p := geom.Place{Seg: x[0], Row: x[1], Slot: slot}
					want := api.Lost
					if geom.Member(g, p) == m {
						want = api.IO
					}
					unread(t, "never written, one dead:", d, p, want)
				}
			}
			d.dead = map[int]bool{0: true, g.Chips - 1: true}
			unknown(t, "never written, two dead:", d, x[0], x[1], api.Lost)
		}
	}
}

// P10.1: one byte that isn't as an erased page's: the stripe isn't blank.
func TestRowAlmostBlank(t *testing.T) {
	for _, i := range []int{0, least.Size - 1, least.Size, least.Size + api.Oob - 1} {
		for m := range least.Chips {
			d := newMembers(least)
			d.pages[place{m, 6, 0}] = parity.Page{Data: bytes.Repeat([]byte{255}, least.Size), Oob: bytes.Repeat([]byte{255}, api.Oob)}
			not(t, "as an erased one:", d, 6, 0, stripe.Blank)
			d.spoil(m, 6, 0, i)
			not(t, "almost blank:", d, 6, 0, stripe.Torn)
			d.dead[(m+1)%least.Chips] = true
			not(t, "almost blank, another one dead:", d, 6, 0, stripe.Torn)
			d.dead = map[int]bool{m: true}
			not(t, "almost blank, it is dead:", d, 6, 0, stripe.Blank)
		}
	}
}

// P10.1: a stripe that was cut off in the middle, in whichever order.
func TestRowTorn(t *testing.T) {
	for _, g := range shapes[:3] {
		for first := -1; first < g.Chips; first++ {
			full := newMembers(g)
			l := pages(g, 4)
			if e := stripe.Write(led{full, first}, 6, 3, l...); e != api.OK {
				t.Fatal(e)
			}
			for many := range g.Chips + 1 {
				d := newMembers(g)
				for _, at := range full.done[:many] {
					d.pages[at] = full.pages[at]
				}
				cut(t, d, many, l)
			}
		}
	}
}

// cut: of stripe 3 of segment 6 there are so many pages: what it is, also with any one member dead.
func cut(t *testing.T, d *members, many int, l []stripe.Page) {
	t.Helper()
	g := d.geo
	switch many {
	case 0:
		not(t, "nothing of it:", d, 6, 3, stripe.Blank)
	case g.Chips:
		whole(t, "all of it:", d, 6, 3, l)
	default:
		not(t, "cut off:", d, 6, 3, stripe.Torn)
	}
	for m := range g.Chips {
		d.dead = map[int]bool{m: true}
		_, has := d.pages[place{m, 6, 3}]
		switch left := many - count(has); {
		case left == 0:
			not(t, "nothing of it but what is dead:", d, 6, 3, stripe.Blank)
		case left == g.Chips-1:
			whole(t, "all but what is dead:", d, 6, 3, l)
		default:
			not(t, "cut off, one dead:", d, 6, 3, stripe.Torn)
		}
	}
}

// count: 1, if it is so.
func count(is bool) int {
	if is {
		return 1
	}
	return 0
}

// P10.1: a stripe that is whole, but isn't even: pages that are right each, but not together.
func TestUneven(t *testing.T) {
	for _, g := range shapes[:3] {
		d, l := written(t, g, 6, 1)
		with := geom.Parity(g, 6, 1)
		for slot := range l {
			p := geom.Place{Seg: 6, Row: 1, Slot: slot}
			m := geom.Member(g, p)
			other := page(g, 1000+slot)
			was := d.pages[place{m, 6, 1}]
			d.put(m, 6, 1, other)
			now := slices.Clone(l)
			now[slot] = other
			reads(t, "uneven:", d, 6, 1, now)
			if got, kind, e := stripe.Row(d, 6, 1); e != api.OK || kind != stripe.Whole || !slices.EqualFunc(got, now, same) {
				t.Error(g, slot, kind, e)
			}
			if even, e := stripe.Even(d, 6, 1); e != api.OK || even {
				t.Error(g, slot, even, e)
			}
			d.dead = map[int]bool{with: true}
			whole(t, "the parity's member is dead:", d, 6, 1, now)
			d.dead = map[int]bool{m: true}
			whole(t, "the other page's member is dead:", d, 6, 1, l)
			d.dead = nil
			d.pages[place{m, 6, 1}] = was
		}
		whole(t, "as it was:", d, 6, 1, l)
	}
}

// P10.1: only the pages' bytes count for Even, not what stands beside them.
func TestEvenBeside(t *testing.T) {
	d, l := written(t, least, 6, 1)
	other := l[0]
	other.Head.Block++
	d.put(geom.Member(least, geom.Place{Seg: 6, Row: 1}), 6, 1, other)
	whole(t, "another header:", d, 6, 1, []stripe.Page{other, l[1]})
	for _, i := range []int{0, 100, least.Size - 1} {
		d, l := written(t, least, 6, 1)
		p := stripe.Page{Head: l[1].Head, Data: slices.Clone(l[1].Data)}
		p.Data[i] ^= 1
		d.put(geom.Member(least, geom.Place{Seg: 6, Row: 1, Slot: 1}), 6, 1, p)
		if even, e := stripe.Even(d, 6, 1); e != api.OK || even {
			t.Error("a bit at", i, even, e)
		}
	}
}

// P10.1: a stripe whose parity page is sealed as something else is whole; but one that is missing isn't made out of it.
func TestNoParity(t *testing.T) {
	for _, g := range shapes[:3] {
		with := geom.Parity(g, 6, 2)
		for kind := uint8(record.Table); kind <= record.Fill; kind++ {
			d, l := written(t, g, 6, 2)
			p := d.pages[place{with, 6, 2}]
			h, _ := record.Open(p.Data, p.Oob)
			h.Kind = kind
			d.pages[place{with, 6, 2}] = parity.Page{Data: p.Data, Oob: record.Seal(h, p.Data, p.Oob[record.Size:])}
			whole(t, "another kind:", d, 6, 2, l)
			for slot := range l {
				at := geom.Place{Seg: 6, Row: 2, Slot: slot}
				m := geom.Member(g, at)
				d.dead[m] = true
				if kind == record.Parity {
					reads(t, "a parity page:", d, 6, 2, l)
				} else {
					unread(t, "another kind:", d, at, api.IO)
					not(t, "another kind, one dead:", d, 6, 2, stripe.Torn)
				}
				delete(d.dead, m)
				d.spoil(m, 6, 2, 1)
				if kind != record.Parity {
					unread(t, "another kind, spoilt:", d, at, api.IO)
				}
				d.spoil(m, 6, 2, 1)
			}
		}
	}
}

// P10.1: what comes out isn't sealed: the parity is of other pages.
func TestOtherParity(t *testing.T) {
	for _, g := range shapes[:3] {
		d, l := written(t, g, 6, 2)
		with := place{geom.Parity(g, 6, 2), 6, 2}
		h := record.Header{Kind: record.Parity, Epoch: l[0].Head.Epoch, Batch: l[0].Head.Batch, Index: 2, Count: 6}
		data := sample(g.Size, 4242)
		d.pages[with] = parity.Page{Data: data, Oob: record.Seal(h, data, d.pages[with].Oob[record.Size:])}
		if even, e := stripe.Even(d, 6, 2); e != api.OK || even {
			t.Error(g, even, e)
		}
		reads(t, "nobody is dead:", d, 6, 2, l)
		for m := range g.Chips {
			d.dead = map[int]bool{m: true}
			slot, ok := geom.Slot(g, 6, 2, m)
			if !ok {
				whole(t, "its own member is dead:", d, 6, 2, l)
				continue
			}
			unread(t, "another parity:", d, geom.Place{Seg: 6, Row: 2, Slot: slot}, api.IO)
			not(t, "another parity, one dead:", d, 6, 2, stripe.Torn)
		}
	}
}

// P10.1: what stands more beside a page is none of a page that is made again.
func TestMoreBeside(t *testing.T) {
	d, l := written(t, least, 6, 2)
	m := geom.Member(least, geom.Place{Seg: 6, Row: 2})
	more := d.pages[place{m, 6, 2}]
	more.Oob = record.Seal(l[0].Head, more.Data, []byte{1})
	d.pages[place{m, 6, 2}] = more
	whole(t, "more beside it:", d, 6, 2, l)
	d.dead[m] = true
	reads(t, "made as it was written:", d, 6, 2, l)
}

// P10.1: other errors come through, of whichever member.
func TestReadErrors(t *testing.T) {
	g := shapes[1]
	for _, want := range []api.Errno{api.IO, api.Nil, api.Range, api.Fail, api.Crash, api.Order, api.Lost, -3, 1000} {
		for m := range g.Chips {
			d, l := written(t, g, 6, 1)
			d.wrong[m] = want
			unknown(t, "another error:", d, 6, 1, want)
			for slot := range l {
				p := geom.Place{Seg: 6, Row: 1, Slot: slot}
				own := geom.Member(g, p)
				if own == m {
					unread(t, "its own error:", d, p, want)
					continue
				}
				if got, e := stripe.Read(d, p); e != api.OK || !same(got, l[slot]) {
					t.Error("another member's error counts:", want, m, slot, e)
				}
				d.dead[own] = true
				unread(t, "another member's error, its own is dead:", d, p, want)
				unknown(t, "another member's error, one is dead:", d, 6, 1, want)
				delete(d.dead, own)
				d.spoil(own, 6, 1, 0)
				unread(t, "another member's error, it is spoilt:", d, p, want)
				d.spoil(own, 6, 1, 0)
			}
		}
	}
}

// odd is a Dev that answers any bytes as pages.
type odd struct {
	*members
	data, oob []byte
}

func (d odd) Read(m, block, page int) (data, oob []byte, e api.Errno) { return d.data, d.oob, api.OK }

// P1 (rule 6): every call ends, whatever a Dev answers.
func TestAnyBytes(t *testing.T) {
	lists := [][]byte{nil, {}, {1}, sample(31, 1), sample(32, 2), sample(63, 2), sample(64, 3), sample(65, 3), sample(256, 4), sample(1000, 5)}
	for _, data := range lists {
		for _, beside := range append(lists, record.Seal(record.Header{Kind: record.Parity}, data, nil), record.Seal(record.Header{Kind: record.Data}, data, nil)) {
			d := odd{newMembers(least), data, beside}
			h, ok := record.Open(data, beside)
			p, e := stripe.Read(d, geom.Place{Seg: 6})
			if ok != (e == api.OK) || ok && !same(p, stripe.Page{Head: h, Data: data}) || !ok && (e != api.IO || !empty(p)) {
				t.Error(len(data), len(beside), p, e)
			}
			l, kind, e := stripe.Row(d, 6, 0)
			if e != api.OK || ok != (kind == stripe.Whole) || ok != (len(l) == 2) {
				t.Error(len(data), len(beside), l, kind, e)
			}
			stripe.Even(d, 6, 0)
			d.dead[0] = true
			stripe.Row(d, 6, 1)
			stripe.Even(d, 6, 1)
		}
	}
}

// P1 (rule 5): what was asked ahead changes no answer, and asking changes no page.
func TestAskedAgain(t *testing.T) {
	d, l := written(t, shapes[1], 8, 4)
	d.spoil(2, 8, 4, 11)
	was := map[place]parity.Page{}
	for at, p := range d.pages {
		was[at] = parity.Page{Data: slices.Clone(p.Data), Oob: slices.Clone(p.Oob)}
	}
	for range 3 {
		reads(t, "asked again:", d, 8, 4, l)
		not(t, "asked again:", d, 8, 4, stripe.Torn)
	}
	if !maps.EqualFunc(d.pages, was, func(a, b parity.Page) bool { return bytes.Equal(a.Data, b.Data) && bytes.Equal(a.Oob, b.Oob) }) {
		t.Error("asking changes pages")
	}
}

package stripe_test

import (
	"bytes"
	"math"
	"slices"
	"testing"

	"gabion/api"
	"gabion/geom"
	"gabion/parity"
	"gabion/record"
	"gabion/stripe"
)

// least and greatest are the smallest and the greatest shape; others lie between.
var (
	least    = api.Geo{Chips: api.MinChips, Blocks: api.MinBlocks, Pages: api.MinPages, Size: api.MinSize}
	greatest = api.Geo{Chips: api.MaxChips, Blocks: api.MaxBlocks, Pages: api.MaxPages, Size: api.MaxSize}
	shapes   = []api.Geo{least, {Chips: 4, Blocks: 17, Pages: 5, Size: 320}, {Chips: 7, Blocks: 24, Pages: 8, Size: 256}, greatest}
)

// noShapes: shapes that may not be.
var noShapes = []api.Geo{
	{},
	{Chips: 2, Blocks: 16, Pages: 4, Size: 256},
	{Chips: 17, Blocks: 16, Pages: 4, Size: 256},
	{Chips: 3, Blocks: 15, Pages: 4, Size: 256},
	{Chips: 3, Blocks: 65, Pages: 4, Size: 256},
	{Chips: 3, Blocks: 16, Pages: 3, Size: 256},
	{Chips: 3, Blocks: 16, Pages: 33, Size: 256},
	{Chips: 3, Blocks: 16, Pages: 4, Size: 0},
	{Chips: 3, Blocks: 16, Pages: 4, Size: 257},
	{Chips: 3, Blocks: 16, Pages: 4, Size: 1088},
	{Chips: -1, Blocks: -1, Pages: -1, Size: -1},
	{Chips: math.MinInt, Blocks: math.MinInt, Pages: math.MinInt, Size: math.MinInt},
	{Chips: math.MaxInt, Blocks: math.MaxInt, Pages: math.MaxInt, Size: math.MaxInt},
}

// place is where a page stands: on which member.
type place struct{ member, block, page int }

// members is a Dev in memory.
type members struct {
	geo   api.Geo
	pages map[place]parity.Page
	dead  map[int]bool
	wrong map[int]api.Errno // what members answer instead
	read  []place           // what was asked for, one behind the other
	done  []place           // likewise, what was to be programmed
}

func newMembers(g api.Geo) *members {
	return &members{geo: g, pages: map[place]parity.Page{}, dead: map[int]bool{}, wrong: map[int]api.Errno{}}
}

func (d *members) Geo() api.Geo { return d.geo }

// stop: the error that a member answers, whatever it is asked.
func (d *members) stop(m int) api.Errno {
	if d.dead[m] {
		return api.Dead
	}
	return d.wrong[m]
}

func (d *members) Read(m, block, page int) (data, oob []byte, e api.Errno) {
	d.read = append(d.read, place{m, block, page})
	if e := d.stop(m); e != api.OK {
		return nil, nil, e
	}
	if p, ok := d.pages[place{m, block, page}]; ok {
		return bytes.Clone(p.Data), bytes.Clone(p.Oob), api.OK
	}
	return bytes.Repeat([]byte{255}, d.geo.Size), bytes.Repeat([]byte{255}, api.Oob), api.OK
}

func (d *members) Program(m, block, page int, data, oob []byte) api.Errno {
	d.done = append(d.done, place{m, block, page})
	if e := d.stop(m); e != api.OK {
		return e
	}
	if m < 0 || m >= d.geo.Chips || block < 0 || block >= d.geo.Virtual() || page < 0 || page >= d.geo.Pages || len(data) != d.geo.Size || len(oob) != api.Oob {
		return api.Range
	}
	if _, ok := d.pages[place{m, block, page}]; ok {
		return api.Order
	}
	d.pages[place{m, block, page}] = parity.Page{Data: bytes.Clone(data), Oob: bytes.Clone(oob)}
	return api.OK
}

// spoil turns bits of one byte of a page that a member has, those beside it counted on.
func (d *members) spoil(m, seg, row, i int) {
	p := d.pages[place{m, seg, row}]
	if i < len(p.Data) {
		p.Data[i] ^= 0x41
		return
	}
	p.Oob[i-len(p.Data)] ^= 0x41
}

// led is members of which one is ahead.
type led struct {
	*members
	first int
}

func (d led) Ahead() int { return d.first }

// sample: n bytes, the same in each run.
func sample(n int, seed uint32) []byte {
	b := make([]byte, n)
	for i := range b {
		seed = seed*1664525 + 1013904223
		b[i] = byte(seed >> 24)
	}
	return b
}

// page: one of data, with another value in each of its header's numbers.
func page(g api.Geo, seed int) stripe.Page {
	n := uint32(seed)
	h := record.Header{Kind: record.Data, Epoch: 0x04030201 + n, Batch: 0x08070605 + n, Index: uint16(0x0A09 + n), Count: uint16(0x0C0B + n), Block: 0x100F0E0D + n, More: 0x14131211 + n}
	return stripe.Page{Head: h, Data: sample(g.Size, n)}
}

// pages: as many as a stripe has.
func pages(g api.Geo, seed int) []stripe.Page {
	var l []stripe.Page
	for i := range geom.Width(g) {
		l = append(l, page(g, 100*seed+i))
	}
	return l
}

// same: are two pages one?
func same(a, b stripe.Page) bool { return a.Head == b.Head && bytes.Equal(a.Data, b.Data) }

// empty: is a page none?
func empty(p stripe.Page) bool { return p.Head == record.Header{} && len(p.Data) == 0 }

// edges: the segments and rows that the tests below take.
func edges(g api.Geo) [][2]int {
	last := g.Virtual() - 1
	return [][2]int{{0, 0}, {0, g.Pages - 1}, {2, 1}, {4, 3}, {6, 0}, {6, 2}, {last, 0}, {last, g.Pages - 1}}
}

// beyond: segments and rows of which one at least isn't there.
func beyond(g api.Geo) [][2]int {
	return [][2]int{{-1, 0}, {0, -1}, {g.Virtual(), 0}, {0, g.Pages}, {g.Virtual(), g.Pages}, {-1, -1}, {math.MinInt, 0}, {0, math.MinInt}, {math.MaxInt, 0}, {0, math.MaxInt}, {math.MaxInt, math.MaxInt}}
}

// written: members with one stripe, and its pages.
func written(t *testing.T, g api.Geo, seg, row int) (*members, []stripe.Page) {
	t.Helper()
	d := newMembers(g)
	l := pages(g, seg*g.Pages+row)
	if e := stripe.Write(d, seg, row, l...); e != api.OK {
		t.Fatal(g, seg, row, "Write:", e)
	}
	return d, l
}

// P10.1: a page that says nothing.
func TestFill(t *testing.T) {
	for _, g := range shapes {
		for _, n := range []uint32{0, 1, 77, math.MaxUint32} {
			p := stripe.Fill(g, n, n/2)
			want := record.Header{Kind: record.Fill, Epoch: n, Batch: n / 2}
			if p.Head != want || !bytes.Equal(p.Data, make([]byte, g.Size)) {
				t.Error(g, n, p.Head, len(p.Data))
			}
		}
	}
	a, b := stripe.Fill(least, 1, 2), stripe.Fill(least, 1, 2)
	a.Data[0] = 9
	if b.Data[0] != 0 {
		t.Error("two answers share memory")
	}
	for _, g := range noShapes {
		p := stripe.Fill(g, 5, 6)
		if (p.Head != record.Header{Kind: record.Fill, Epoch: 5, Batch: 6}) {
			t.Error(g, p.Head)
		}
		if g.Size < 2000 && len(p.Data) != max(g.Size, 0) {
			t.Error(g, len(p.Data))
		}
	}
}

// P10.1: members in order, the one that is to be ahead first.
func TestOrder(t *testing.T) {
	bare := newMembers(least)
	for _, x := range []struct {
		d       stripe.Dev
		from, n int
		want    []int
	}{
		{bare, 0, 3, []int{0, 1, 2}},
		{bare, 1, 1, []int{1}},
		{bare, 0, 0, nil},
		{bare, 0, -1, nil},
		{bare, 5, math.MinInt, nil},
		{bare, 40, 3, []int{40, 41, 42}},
		{bare, -2, 4, []int{-2, -1, 0, 1}},
		{nil, 0, 3, []int{0, 1, 2}},
		{nil, 0, -3, nil},
		{led{bare, 0}, 0, 3, []int{0, 1, 2}},
		{led{bare, 1}, 0, 3, []int{1, 0, 2}},
		{led{bare, 2}, 0, 3, []int{2, 0, 1}},
		{led{bare, 3}, 0, 3, []int{0, 1, 2}},
		{led{bare, 1}, 2, 2, []int{2, 3}},
		{led{bare, 3}, 2, 2, []int{3, 2}},
		{led{bare, 2}, 2, 2, []int{2, 3}},
		{led{bare, 4}, 2, 2, []int{2, 3}},
		{led{bare, 9}, 5, 7, []int{9, 5, 6, 7, 8, 10, 11}},
		{led{bare, 2}, 2, 0, nil},
		{led{bare, 2}, 2, -1, nil},
		{led{bare, -1}, 0, 3, []int{0, 1, 2}},
		{led{bare, -1}, -2, 4, []int{-2, -1, 0, 1}},
		{led{bare, math.MinInt}, math.MinInt, 2, []int{math.MinInt, math.MinInt + 1}},
		{led{bare, 0}, -2, 4, []int{0, -2, -1, 1}},
		{led{bare, math.MaxInt}, 0, 2, []int{0, 1}},
		{led{bare, math.MaxInt}, math.MaxInt - 1, 2, []int{math.MaxInt, math.MaxInt - 1}},
		{led{bare, 1}, math.MinInt, 2, []int{math.MinInt, math.MinInt + 1}},
		{bare, 0, math.MaxInt, nil},
	} {
		if got := stripe.Order(x.d, x.from, x.n); !slices.Equal(got, x.want) {
			t.Error(x.from, x.n, got, x.want)
		}
	}
	if len(bare.read)+len(bare.done) > 0 {
		t.Error("Order reads, or programs")
	}
	for n := range 20 {
		for first := range 25 {
			got := stripe.Order(led{bare, first}, 3, n)
			slices.Sort(got)
			if !slices.Equal(got, stripe.Order(bare, 3, n)) {
				t.Error(n, first, got)
			}
		}
	}
}

// P10.1: each member gets its page once, in Order: the pages sealed, with nothing more beside them, and their parity.
func TestWrite(t *testing.T) {
	for _, g := range shapes {
		for _, x := range edges(g) {
			seg, row := x[0], x[1]
			d, l := written(t, g, seg, row)
			var order []place
			for m := range g.Chips {
				order = append(order, place{m, seg, row})
			}
			if !slices.Equal(d.done, order) || len(d.read) > 0 {
				t.Error(g, seg, row, "programs", d.done, "and reads", d.read)
			}
			var data []parity.Page
			for slot, p := range l {
				want := parity.Page{Data: p.Data, Oob: record.Seal(p.Head, p.Data, nil)}
				data = append(data, want)
				m := geom.Member(g, geom.Place{Seg: seg, Row: row, Slot: slot})
				if got := d.pages[place{m, seg, row}]; !bytes.Equal(got.Data, want.Data) || !bytes.Equal(got.Oob, want.Oob) {
					t.Error(g, seg, row, "slot", slot)
				}
			}
			h := record.Header{Kind: record.Parity, Epoch: l[0].Head.Epoch, Batch: l[0].Head.Batch, Index: uint16(row), Count: uint16(seg)}
			want := parity.Of(h, data...)
			if got := d.pages[place{geom.Parity(g, seg, row), seg, row}]; !bytes.Equal(got.Data, want.Data) || !bytes.Equal(got.Oob, want.Oob) {
				t.Error(g, seg, row, "another parity")
			}
		}
	}
}

// P10.1: the member that is to be ahead is.
func TestWriteAhead(t *testing.T) {
	for _, g := range shapes {
		for first := -1; first <= g.Chips; first++ {
			d := led{newMembers(g), first}
			if e := stripe.Write(d, 6, 1, pages(g, 1)...); e != api.OK {
				t.Error(g, first, e)
			}
			var order []place
			if first >= 0 && first < g.Chips {
				order = append(order, place{first, 6, 1})
			}
			for m := range g.Chips {
				if m != first {
					order = append(order, place{m, 6, 1})
				}
			}
			if !slices.Equal(d.done, order) {
				t.Error(g, first, d.done)
			}
		}
	}
}

// P10.1: pages of all kinds, with any header, the same page many times among them.
func TestWriteKinds(t *testing.T) {
	d := newMembers(least)
	l := []stripe.Page{stripe.Fill(least, 3, 4), page(least, 5)}
	for kind := range 6 {
		one := page(least, kind)
		one.Head.Kind = uint8(kind + 1)
		l = append(l, one, one)
	}
	for i := 0; i < len(l); i += 2 {
		seg, row := 6+i/8, i/2%4
		if e := stripe.Write(d, seg, row, l[i], l[i+1]); e != api.OK {
			t.Fatal(i, e)
		}
		for slot := range 2 {
			if p, e := stripe.Read(d, geom.Place{Seg: seg, Row: row, Slot: slot}); e != api.OK || !same(p, l[i+slot]) {
				t.Error(i, slot, p.Head, e)
			}
		}
		p := d.pages[place{geom.Parity(least, seg, row), seg, row}]
		if h, ok := record.Open(p.Data, p.Oob); !ok || h.Kind != record.Parity || h.Epoch != l[i].Head.Epoch || h.Batch != l[i].Head.Batch {
			t.Error(i, "the parity's header:", h, ok)
		}
	}
}

// P10.1: what may not be written: nothing is programmed then.
func TestWriteRange(t *testing.T) {
	for _, g := range shapes {
		d := newMembers(g)
		none := func(what string, seg, row int, l ...stripe.Page) {
			t.Helper()
			if e := stripe.Write(d, seg, row, l...); e != api.Range {
				t.Error(g, what, seg, row, e)
			}
		}
		l := pages(g, 1)
		for _, x := range beyond(g) {
			none("no such stripe:", x[0], x[1], l...)
		}
		none("no pages", 6, 0)
		none("too few pages", 6, 0, l[1:]...)
		none("too many pages", 6, 0, append(slices.Clone(l), l[0])...)
		for i := range l {
			for _, data := range [][]byte{nil, {}, l[i].Data[1:], append(slices.Clone(l[i].Data), 0), make([]byte, 2*g.Size)} {
				bad := slices.Clone(l)
				bad[i].Data = data
				none("a page of another length", 6, 0, bad...)
			}
		}
		if len(d.done)+len(d.read) > 0 {
			t.Error(g, "programs", d.done, "reads", d.read)
		}
	}
	for _, g := range noShapes {
		d := newMembers(g)
		many := min(geom.Width(g), 20)
		var l []stripe.Page
		for range many {
			l = append(l, stripe.Page{Data: make([]byte, min(max(g.Size, 0), 2000))})
		}
		if e := stripe.Write(d, 0, 0, l...); e != api.Range || len(d.done) > 0 {
			t.Error(g, e, d.done)
		}
	}
}

// P10.1: a member that is dead is passed over; two aren't, but all others have their pages.
func TestWriteDead(t *testing.T) {
	for _, g := range shapes[:3] {
		l := pages(g, 1)
		right := newMembers(g)
		stripe.Write(right, 7, 2, l...)
		for a := range g.Chips {
			for b := range g.Chips {
				d := newMembers(g)
				d.dead[a], d.dead[b] = true, true
				want := api.Lost
				if a == b {
					want = api.OK
				}
				if e := stripe.Write(d, 7, 2, l...); e != want {
					t.Error(g, a, b, e)
				}
				if !slices.Equal(d.done, right.done) || len(d.pages) != g.Chips-len(d.dead) {
					t.Error(g, a, b, d.done, len(d.pages))
				}
				for at, p := range d.pages {
					if q := right.pages[at]; !bytes.Equal(p.Data, q.Data) || !bytes.Equal(p.Oob, q.Oob) {
						t.Error(g, a, b, at, "has another page")
					}
				}
			}
		}
		d := newMembers(g)
		for m := range g.Chips {
			d.dead[m] = true
		}
		if e := stripe.Write(d, 7, 2, l...); e != api.Lost || len(d.done) != g.Chips {
			t.Error(g, "all are dead:", e, d.done)
		}
	}
}

// P10.1: any other error ends it, also where members are dead.
func TestWriteErrors(t *testing.T) {
	g := shapes[1]
	l := pages(g, 1)
	for _, want := range []api.Errno{api.IO, api.Nil, api.Range, api.Fail, api.Crash, api.Order, api.Lost, -3, 1000} {
		for m := range g.Chips {
			for dead := range g.Chips {
				d := newMembers(g)
				d.wrong[m] = want
				for i := range dead {
					d.dead[(m+1+i)%g.Chips] = true
				}
				if e := stripe.Write(d, 7, 2, l...); e != want || len(d.done) != m+1 {
					t.Error(want, m, dead, e, d.done)
				}
				a := led{newMembers(g), m}
				a.wrong[m] = want
				if e := stripe.Write(a, 7, 2, l...); e != want || len(a.done) != 1 {
					t.Error(want, m, "ahead:", e, a.done)
				}
			}
		}
	}
	d := newMembers(g)
	if e := stripe.Write(d, 7, 2, l...); e != api.OK {
		t.Fatal(e)
	}
	if e := stripe.Write(d, 7, 2, l...); e != api.Order {
		t.Error("twice:", e)
	}
}

// keeper is a Dev that keeps what it gets, changes it when it is told to, and hands out what it keeps.
type keeper struct {
	*members
	kept map[place]parity.Page
}

func (d keeper) Read(m, block, page int) (data, oob []byte, e api.Errno) {
	p := d.kept[place{m, block, page}]
	return p.Data, p.Oob, d.stop(m)
}

func (d keeper) Program(m, block, page int, data, oob []byte) api.Errno {
	d.kept[place{m, block, page}] = parity.Page{Data: data, Oob: oob}
	return api.OK
}

// spread makes all bytes of a list, and those of its spare room, others.
func spread(b []byte) {
	for i := range b[:cap(b)] {
		b[:cap(b)][i] ^= 0xEE
	}
}

// P1 (rule 4): what is handed in isn't changed, its spare room neither, and not kept; answers are new memory.
func TestNewMemory(t *testing.T) {
	g := least
	d := keeper{newMembers(g), map[place]parity.Page{}}
	l := append(pages(g, 3), page(g, 99))[:2:3]
	for i := range l {
		l[i].Data = append(l[i].Data, 1, 2, 3, 4)[:g.Size]
	}
	was := []stripe.Page{{Head: l[0].Head, Data: slices.Clone(l[0].Data)}, {Head: l[1].Head, Data: slices.Clone(l[1].Data)}}
	if e := stripe.Write(d, 6, 1, l...); e != api.OK {
		t.Fatal(e)
	}
	if !same(l[:3][2], page(g, 99)) || !bytes.Equal(l[0].Data[:g.Size+4][g.Size:], []byte{1, 2, 3, 4}) {
		t.Error("Write changes spare room")
	}
	for i := range l {
		spread(l[i].Data)
	}
	check := func(what string) {
		t.Helper()
		for slot := range was {
			p, e := stripe.Read(d, geom.Place{Seg: 6, Row: 1, Slot: slot})
			if e != api.OK || !same(p, was[slot]) {
				t.Error(what, "Read:", slot, e)
			}
			spread(p.Data)
		}
		got, kind, e := stripe.Row(d, 6, 1)
		if e != api.OK || kind != stripe.Whole || len(got) != len(was) {
			t.Fatal(what, "Row:", len(got), kind, e)
		}
		for slot := range was {
			if !same(got[slot], was[slot]) {
				t.Error(what, "Row:", slot)
			}
			spread(got[slot].Data)
		}
		if even, e := stripe.Even(d, 6, 1); !even || e != api.OK {
			t.Error(what, "Even:", even, e)
		}
	}
	check("written:")
	check("read:")
	for m := range g.Chips {
		d.dead[m] = true
		check("one is dead:")
		check("one is dead, and it was read:")
		delete(d.dead, m)
	}
}

// P1: no Dev is told as Nil, ahead of all else.
func TestNil(t *testing.T) {
	for _, seg := range []int{-1, 0, 6, 1000} {
		for _, l := range [][]stripe.Page{nil, {}, pages(least, 1)} {
			if e := stripe.Write(nil, seg, 0, l...); e != api.Nil {
				t.Error(seg, e)
			}
		}
		if p, e := stripe.Read(nil, geom.Place{Seg: seg}); e != api.Nil || !empty(p) {
			t.Error(seg, p, e)
		}
		if l, kind, e := stripe.Row(nil, seg, 0); e != api.Nil || kind != 0 || len(l) > 0 {
			t.Error(seg, l, kind, e)
		}
		if even, e := stripe.Even(nil, seg, 0); e != api.Nil || even {
			t.Error(seg, even, e)
		}
	}
}

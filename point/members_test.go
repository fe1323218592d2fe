package point_test

import (
	"bytes"
	"math"
	"testing"

	"gabion/api"
	"gabion/geom"
	"gabion/parity"
	"gabion/point"
	"gabion/record"
	"gabion/stripe"
)

// least and greatest are the smallest and the greatest shape; others lie between.
var (
	least    = api.Geo{Chips: api.MinChips, Blocks: api.MinBlocks, Pages: api.MinPages, Size: api.MinSize}
	even     = api.Geo{Chips: 4, Blocks: 16, Pages: 4, Size: 256}
	odd      = api.Geo{Chips: 5, Blocks: 17, Pages: 5, Size: 320}
	greatest = api.Geo{Chips: api.MaxChips, Blocks: api.MaxBlocks, Pages: api.MaxPages, Size: api.MaxSize}
	shapes   = []api.Geo{least, even, odd, greatest}
)

// noShapes: shapes that may not be.
var noShapes = []api.Geo{
	{},
	{Chips: 2, Blocks: 16, Pages: 4, Size: 256},
	{Chips: 17, Blocks: 16, Pages: 4, Size: 256},
	{Chips: 3, Blocks: 15, Pages: 4, Size: 256},
	{Chips: 3, Blocks: 65, Pages: 4, Size: 256},
	{Chips: 3, Blocks: 16, Pages: 3, Size: 256},
	{Chips: 3, Blocks: 16, Pages: 0, Size: 256},
	{Chips: 3, Blocks: 16, Pages: 33, Size: 256},
	{Chips: 3, Blocks: 16, Pages: 4, Size: 0},
	{Chips: 3, Blocks: 16, Pages: 4, Size: 257},
	{Chips: 3, Blocks: 16, Pages: 4, Size: 1088},
	{Chips: -1, Blocks: -1, Pages: -1, Size: -1},
	{Chips: math.MinInt, Blocks: math.MinInt, Pages: math.MinInt, Size: math.MinInt},
	{Chips: math.MaxInt, Blocks: math.MaxInt, Pages: math.MaxInt, Size: math.MaxInt},
}

// place is where a page stands: on which member.
type place struct{ member, block, page int }

// members is a Dev in memory.
type members struct {
	geo    api.Geo
	pages  map[place]parity.Page
	dead   map[int]bool
	dies   map[int]int       // from which operation on a member is dead
	wrong  map[int]api.Errno // what members answer instead
	erase  api.Errno         // what Erase answers instead
	ops    int               // how many pages were to be programmed, or blocks erased
	read   []place           // what was asked for, one behind the other
	done   []place           // what was to be programmed, one behind the other
	erased []int             // likewise, what was to be erased
}

func newMembers(g api.Geo) *members {
	return &members{geo: g, pages: map[place]parity.Page{}, dead: map[int]bool{}, dies: map[int]int{}, wrong: map[int]api.Errno{}}
}

func (d *members) Geo() api.Geo { return d.geo }

// stop: the error that a member answers, whatever it is asked.
func (d *members) stop(m int) api.Errno {
	if op, ok := d.dies[m]; d.dead[m] || ok && d.ops >= op {
		return api.Dead
	}
	return d.wrong[m]
}

func (d *members) Read(m, block, page int) (data, oob []byte, e api.Errno) {
	d.read = append(d.read, place{m, block, page})
	if e := d.stop(m); e != api.OK {
		return nil, nil, e
	}
	if p, ok := d.pages[place{m, block, page}]; ok {
		return bytes.Clone(p.Data), bytes.Clone(p.Oob), api.OK
	}
	return bytes.Repeat([]byte{255}, d.geo.Size), bytes.Repeat([]byte{255}, api.Oob), api.OK
}

func (d *members) Program(m, block, page int, data, oob []byte) api.Errno {
	d.ops++
	d.done = append(d.done, place{m, block, page})
	if e := d.stop(m); e != api.OK {
		return e
	}
	if m < 0 || m >= d.geo.Chips || block < 0 || block >= d.geo.Virtual() || page < 0 || page >= d.geo.Pages || len(data) != d.geo.Size || len(oob) != api.Oob {
		return api.Range
	}
	if _, ok := d.pages[place{m, block, page}]; ok {
		return api.Order
	}
	d.pages[place{m, block, page}] = parity.Page{Data: bytes.Clone(data), Oob: bytes.Clone(oob)}
	return api.OK
}

func (d *members) Erase(block int) api.Errno {
	d.ops++
	d.erased = append(d.erased, block)
	if d.erase != api.OK {
		return d.erase
	}
	for at := range d.pages {
		if at.block == block && d.stop(at.member) == api.OK {
			delete(d.pages, at)
		}
	}
	return api.OK
}

// spoil turns bits of one byte of a page that a member has.
func (d *members) spoil(m, seg, row, i int) { d.pages[place{m, seg, row}].Data[i] ^= 0x41 }

// led is members of which one is ahead.
type led struct {
	*members
	first int
}

func (d led) Ahead() int { return d.first }

// sized: a point whose bytes are so many (16, or 4 more each).
func sized(seq uint32, many int) point.Point {
	n := many/4 - 4
	return point.Point{Seq: seq, Batch: seq + 5, Map: numbers(n/2, seq+1), Erases: numbers(n-n/2, seq+2)}
}

// paged: a point with so many pages, the last one full.
func paged(g api.Geo, seq uint32, many int) point.Point { return sized(seq, many*g.Size) }

// parts: a point's pages as its segment has them, without what fills up the last stripe.
func parts(g api.Geo, p point.Point) []stripe.Page {
	b := p.Encode()
	many := (len(b) + g.Size - 1) / g.Size
	b = append(b, make([]byte, many*g.Size-len(b))...)
	var l []stripe.Page
	for i := range many {
		h := record.Header{Kind: record.Point, Epoch: p.Seq, Index: uint16(i), Count: uint16(many)}
		l = append(l, stripe.Page{Head: h, Data: b[i*g.Size : (i+1)*g.Size]})
	}
	return l
}

// lay writes pages as stripes of a segment, filled up with pages of an epoch.
func lay(t *testing.T, d stripe.Dev, seg int, epoch uint32, l ...stripe.Page) {
	t.Helper()
	g := d.Geo()
	for i, w := 0, geom.Width(g); i < len(l); i += w {
		some := append([]stripe.Page{}, l[i:min(i+w, len(l))]...)
		for len(some) < w {
			some = append(some, stripe.Fill(g, epoch, 0))
		}
		if e := stripe.Write(d, seg, i/w, some...); e != api.OK {
			t.Fatal("segment", seg, "row", i/w, e)
		}
	}
}

// put writes a point, as Write is to.
func put(t *testing.T, d point.Dev, p point.Point) {
	t.Helper()
	if e := point.Write(d, p); e != api.OK {
		t.Fatal("Write:", p.Seq, e)
	}
}

// reads: one of both segments has this point, and this greatest number.
func reads(t *testing.T, what string, d stripe.Dev, which int, want point.Point, most uint32) {
	t.Helper()
	if p, ok, n, e := point.Read(d, which); e != api.OK || !ok || n != most || !same(p, want) {
		t.Error(what, "Read:", which, p.Seq, ok, n, e)
	}
}

// readsNone: one of both segments has no point, but this greatest number.
func readsNone(t *testing.T, what string, d stripe.Dev, which int, most uint32) {
	t.Helper()
	if p, ok, n, e := point.Read(d, which); e != api.OK || ok || n != most || !none(p) {
		t.Error(what, "Read:", which, p.Seq, ok, n, e)
	}
}

// last: this is the last point, and this the greatest number.
func last(t *testing.T, what string, d stripe.Dev, want point.Point, most uint32) {
	t.Helper()
	if p, ok, n, e := point.Last(d); e != api.OK || !ok || n != most || !same(p, want) {
		t.Error(what, "Last:", p.Seq, ok, n, e)
	}
}

// lastNone: there is no point, but this greatest number.
func lastNone(t *testing.T, what string, d stripe.Dev, most uint32) {
	t.Helper()
	if p, ok, n, e := point.Last(d); e != api.OK || ok || n != most || !none(p) {
		t.Error(what, "Last:", p.Seq, ok, n, e)
	}
}

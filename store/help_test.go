package store_test

import (
	"bytes"
	"math"
	"slices"
	"testing"

	"gabion/api"
	"gabion/geom"
	"gabion/parity"
	"gabion/point"
	"gabion/record"
	"gabion/stage"
	"gabion/store"
	"gabion/stripe"
	"gabion/wear"
)

// Shapes that just fit: with fewest segments, with fewest rows, with an even and with an odd count of members, with the most members; and the greatest.
var (
	least    = api.Geo{Chips: 3, Blocks: 19, Pages: 9, Size: 256}
	rows     = api.Geo{Chips: 3, Blocks: 24, Pages: 4, Size: 256}
	even     = api.Geo{Chips: 4, Blocks: 19, Pages: 7, Size: 256}
	odd      = api.Geo{Chips: 5, Blocks: 19, Pages: 5, Size: 320}
	wide     = api.Geo{Chips: 16, Blocks: 19, Pages: 4, Size: 256}
	greatest = api.Geo{Chips: 16, Blocks: 64, Pages: 32, Size: 1024}
	small    = []api.Geo{least, rows, even, odd, wide}
)

// noShapes: shapes that may not be.
var noShapes = []api.Geo{
	{},
	{Chips: 2, Blocks: 24, Pages: 16, Size: 256},
	{Chips: 17, Blocks: 24, Pages: 16, Size: 256},
	{Chips: 3, Blocks: 15, Pages: 32, Size: 256},
	{Chips: 3, Blocks: 65, Pages: 16, Size: 256},
	{Chips: 3, Blocks: 24, Pages: 33, Size: 256},
	{Chips: 3, Blocks: 64, Pages: 3, Size: 256},
	{Chips: 3, Blocks: 24, Pages: 16, Size: 255},
	{Chips: 3, Blocks: 24, Pages: 16, Size: 1088},
	{Chips: -3, Blocks: -24, Pages: -16, Size: -256},
	{Chips: math.MinInt, Blocks: math.MinInt, Pages: math.MinInt, Size: math.MinInt},
	{Chips: math.MaxInt, Blocks: math.MaxInt, Pages: math.MaxInt, Size: math.MaxInt},
}

// spot is where a page stands: on which member.
type spot struct{ member, block, page int }

// members is a Dev in memory.
type members struct {
	geo    api.Geo
	pages  map[spot]parity.Page
	dead   int       // the member that is; none: -1
	wrong  api.Errno // what is answered from an operation on
	from   int       // which one
	ops    int
	erased []int // the blocks that were erased, one behind the other
}

func newMembers(g api.Geo) *members {
	return &members{geo: g, pages: map[spot]parity.Page{}, dead: -1, from: math.MaxInt}
}

func (d *members) Geo() api.Geo { return d.geo }

// stop: the error that comes instead.
func (d *members) stop(m int) api.Errno {
	d.ops++
	if d.ops >= d.from {
		return d.wrong
	}
	if m == d.dead {
		return api.Dead
	}
	return api.OK
}

func (d *members) Read(m, block, page int) (data, oob []byte, e api.Errno) {
	if e := d.stop(m); e != api.OK {
		return nil, nil, e
	}
	if p, ok := d.pages[spot{m, block, page}]; ok {
		return bytes.Clone(p.Data), bytes.Clone(p.Oob), api.OK
	}
	return bytes.Repeat([]byte{255}, d.geo.Size), bytes.Repeat([]byte{255}, api.Oob), api.OK
}

func (d *members) Program(m, block, page int, data, oob []byte) api.Errno {
	if e := d.stop(m); e != api.OK {
		return e
	}
	if m < 0 || m >= d.geo.Chips || block < 0 || block >= d.geo.Virtual() || page < 0 || page >= d.geo.Pages || len(data) != d.geo.Size || len(oob) != api.Oob {
		return api.Range
	}
	_, ahead := d.pages[spot{m, block, page - 1}]
	if _, ok := d.pages[spot{m, block, page}]; ok || page > 0 && !ahead {
		return api.Order
	}
	d.pages[spot{m, block, page}] = parity.Page{Data: bytes.Clone(data), Oob: bytes.Clone(oob)}
	return api.OK
}

func (d *members) Erase(block int) api.Errno {
	if e := d.stop(-2); e != api.OK {
		return e
	}
	d.erased = append(d.erased, block)
	for at := range d.pages {
		if at.block == block {
			delete(d.pages, at)
		}
	}
	return api.OK
}

// copied: the same members by themselves.
func (d *members) copied() *members {
	c := newMembers(d.geo)
	for at, p := range d.pages {
		c.pages[at] = p
	}
	c.dead = d.dead
	return c
}

// spoil turns a bit of a page that a member has, if one stands there.
func (d *members) spoil(m, block, page int) {
	p, ok := d.pages[spot{m, block, page}]
	if !ok {
		return
	}
	p.Data = bytes.Clone(p.Data)
	p.Data[page%len(p.Data)] ^= 16
	d.pages[spot{m, block, page}] = p
}

// format: a store that holds nothing, on members in memory.
func format(t *testing.T, g api.Geo) (*members, *store.Store) {
	t.Helper()
	d := newMembers(g)
	s, e := store.Format(d)
	if e != api.OK {
		t.Fatal(g, "Format:", e)
	}
	return d, s
}

// mount: a store as it was left.
func mount(t *testing.T, what string, d point.Dev) *store.Store {
	t.Helper()
	s, e := store.Mount(d)
	if e != api.OK {
		t.Fatal(what, "Mount:", e)
	}
	return s
}

// batch: it must be answered.
func batch(t *testing.T, what string, s *store.Store, l []store.Item, drops ...uint32) {
	t.Helper()
	if e := s.Batch(l, drops...); e != api.OK {
		t.Fatal(what, "Batch:", e)
	}
}

// bytesOf: a block's bytes, another time others; the same in each run.
func bytesOf(g api.Geo, b uint32, time int) []byte {
	seed := b*2654435761 + uint32(time)*40503 + 1
	l := make([]byte, g.Size)
	for i := range l {
		seed = seed*1664525 + 1013904223
		l[i] = byte(seed >> 24)
	}
	return l
}

// items: blocks with bytes of a time.
func items(g api.Geo, time int, blocks ...uint32) []store.Item {
	var l []store.Item
	for _, b := range blocks {
		l = append(l, store.Item{Block: b, Data: bytesOf(g, b, time)})
	}
	return l
}

// span: n blocks from one on, one behind the other, around the end.
func span(s *store.Store, from, n int) []uint32 {
	var l []uint32
	for i := range n {
		l = append(l, uint32((from+i)%s.Blocks()))
	}
	return l
}

// holds: are a block's bytes those of a time? (never: noughts)
func holds(t *testing.T, what string, s *store.Store, b uint32, time int) {
	t.Helper()
	data, e := s.Get(b)
	want := content(api.Geo{Size: max(len(data), api.MinSize)}, b, time)
	if e != api.OK || !bytes.Equal(data, want) {
		t.Error(what, "block", b, "isn't that of", time, len(data), e)
	}
}

// right: Check is true, and what is told of a store goes together.
func right(t *testing.T, what string, g api.Geo, s *store.Store) {
	t.Helper()
	if ok, e := s.Check(); !ok || e != api.OK {
		t.Error(what, "Check:", ok, e)
	}
	segs := s.Segs()
	lives := make([]int, len(segs))
	used := len(s.Staged())
	at := map[geom.Place]int{}
	for b := range s.Blocks() {
		p, ok := s.Where(uint32(b))
		if !ok {
			continue
		}
		used++
		at[p]++
		if at[p] > 1 || slices.Contains(s.Staged(), uint32(b)) {
			t.Error(what, "block", b, "is at", p, "where another one is, or staged")
		}
		lives[p.Seg-geom.First]++
	}
	for n, x := range segs {
		if x.Live != lives[n] || x.Kind == wear.Free && x.Live > 0 {
			t.Error(what, "segment", n, x, "has", lives[n])
		}
	}
	if n, _ := s.Space(); n != used {
		t.Error(what, "Space tells", n, "of", used)
	}
	if n := wear.Count(segs, wear.Open); n > 1 || len(s.Staged()) >= geom.Width(g) {
		t.Error(what, n, "are open,", len(s.Staged()), "staged")
	}
}

// found is a page of data of an epoch, as it stands.
type found struct {
	head  record.Header
	block int // the virtual block
	n     int // which place of it
}

// pagesOf: all pages of data and all that fill up, of an epoch, in the order in which they stand: those of segments, those that are staged.
func pagesOf(t *testing.T, d point.Dev, epoch uint32) []found {
	t.Helper()
	g := d.Geo()
	var l []found
	for seg := geom.First; seg < g.Virtual(); seg++ {
		for row := range g.Pages {
			some, _, e := stripe.Row(d, seg, row)
			if e != api.OK {
				t.Fatal(e)
			}
			for slot, p := range some {
				l = append(l, found{p.Head, seg, row*geom.Width(g) + slot})
			}
		}
	}
	for which := range 2 {
		some, e := stage.All(d, which)
		if e != api.OK {
			t.Fatal(e)
		}
		for n, p := range some {
			l = append(l, found{p.Head, geom.Stages + which, n})
		}
	}
	return slices.DeleteFunc(l, func(x found) bool { return x.head.Epoch != epoch })
}

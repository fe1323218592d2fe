package stage_test

import (
	"bytes"
	"math"
	"slices"
	"testing"

	"gabion/api"
	"gabion/parity"
	"gabion/record"
	"gabion/stage"
	"gabion/stripe"
)

// least and greatest are the smallest and the greatest shape; others lie between, with an odd and with an even count of members.
var (
	least    = api.Geo{Chips: api.MinChips, Blocks: api.MinBlocks, Pages: api.MinPages, Size: api.MinSize}
	greatest = api.Geo{Chips: api.MaxChips, Blocks: api.MaxBlocks, Pages: api.MaxPages, Size: api.MaxSize}
	shapes   = []api.Geo{least, {Chips: 4, Blocks: 17, Pages: 5, Size: 320}, {Chips: 5, Blocks: 24, Pages: 8, Size: 256}, {Chips: 15, Blocks: 16, Pages: 4, Size: 256}, greatest}
)

// noShapes: shapes that may not be.
var noShapes = []api.Geo{
	{},
	{Chips: 0, Blocks: 16, Pages: 4, Size: 256},
	{Chips: -1, Blocks: 16, Pages: 4, Size: 256},
	{Chips: -4, Blocks: 16, Pages: 4, Size: 256},
	{Chips: 1, Blocks: 16, Pages: 4, Size: 256},
	{Chips: 2, Blocks: 16, Pages: 4, Size: 256},
	{Chips: 17, Blocks: 16, Pages: 4, Size: 256},
	{Chips: 3, Blocks: 15, Pages: 4, Size: 256},
	{Chips: 3, Blocks: 65, Pages: 4, Size: 256},
	{Chips: 3, Blocks: 16, Pages: 3, Size: 256},
	{Chips: 3, Blocks: 16, Pages: 33, Size: 256},
	{Chips: 3, Blocks: 16, Pages: -4, Size: 256},
	{Chips: 3, Blocks: 16, Pages: 4, Size: 0},
	{Chips: 3, Blocks: 16, Pages: 4, Size: 257},
	{Chips: 3, Blocks: 16, Pages: 4, Size: 1088},
	{Chips: -1, Blocks: -1, Pages: -1, Size: -1},
	{Chips: math.MinInt, Blocks: math.MinInt, Pages: math.MinInt, Size: math.MinInt},
	{Chips: math.MaxInt, Blocks: math.MaxInt, Pages: math.MaxInt, Size: math.MaxInt},
}

// others are errors that members may answer, beside that they are dead.
var others = []api.Errno{api.Nil, api.Range, api.Fail, api.Crash, api.Order, api.Lost, api.State, -3, 1000}

// place is where a page stands: on which member.
type place struct{ member, block, page int }

// members is a Dev in memory.
type members struct {
	geo   api.Geo
	pages map[place]parity.Page
	dead  map[int]bool
	wrong map[int]api.Errno // what members answer instead
	read  []place           // what was asked for, one behind the other
	done  []place           // likewise, what was to be programmed
}

func newMembers(g api.Geo) *members {
	return &members{geo: g, pages: map[place]parity.Page{}, dead: map[int]bool{}, wrong: map[int]api.Errno{}}
}

func (d *members) Geo() api.Geo { return d.geo }

// stop: the error that a member answers, whatever it is asked.
func (d *members) stop(m int) api.Errno {
	if d.dead[m] {
		return api.Dead
	}
	return d.wrong[m]
}

func (d *members) Read(m, block, page int) (data, oob []byte, e api.Errno) {
	d.read = append(d.read, place{m, block, page})
	if e := d.stop(m); e != api.OK {
		return nil, nil, e
	}
	if p, ok := d.pages[place{m, block, page}]; ok {
		return bytes.Clone(p.Data), bytes.Clone(p.Oob), api.OK
	}
	return bytes.Repeat([]byte{255}, d.geo.Size), bytes.Repeat([]byte{255}, api.Oob), api.OK
}

func (d *members) Program(m, block, page int, data, oob []byte) api.Errno {
	d.done = append(d.done, place{m, block, page})
	if e := d.stop(m); e != api.OK {
		return e
	}
	if m < 0 || m >= d.geo.Chips || block < 0 || block >= d.geo.Virtual() || page < 0 || page >= d.geo.Pages || len(data) != d.geo.Size || len(oob) != api.Oob {
		return api.Range
	}
	if _, ok := d.pages[place{m, block, page}]; ok {
		return api.Order
	}
	d.pages[place{m, block, page}] = parity.Page{Data: bytes.Clone(data), Oob: bytes.Clone(oob)}
	return api.OK
}

// spoil turns bits of one byte of a page that a member has, those beside it counted on; once more, and it is as it was.
func (d *members) spoil(at place, i int) {
	p := d.pages[at]
	if i < len(p.Data) {
		p.Data[i] ^= 0x41
		return
	}
	p.Oob[i-len(p.Data)] ^= 0x41
}

// led is members of which one is ahead.
type led struct {
	*members
	first int
}

func (d led) Ahead() int { return d.first }

// sample: n bytes, the same in each run.
func sample(n int, seed uint32) []byte {
	b := make([]byte, n)
	for i := range b {
		seed = seed*1664525 + 1013904223
		b[i] = byte(seed >> 24)
	}
	return b
}

// page: one of data, with another value in each of its header's numbers.
func page(g api.Geo, seed int) stripe.Page {
	n := uint32(seed)
	h := record.Header{Kind: record.Data, Epoch: 0x04030201 + n, Batch: 0x08070605 + n, Index: uint16(0x0A09 + n), Count: uint16(0x0C0B + n), Block: 0x100F0E0D + n, More: 0x14131211 + n}
	return stripe.Page{Head: h, Data: sample(g.Size, n)}
}

// same: are two pages one?
func same(a, b stripe.Page) bool { return a.Head == b.Head && bytes.Equal(a.Data, b.Data) }

// empty: is a page none?
func empty(p stripe.Page) bool { return p.Head == record.Header{} && len(p.Data) == 0 }

// room: how many can be staged, counted one by one.
func room(g api.Geo) int {
	many := 0
	for range g.Pages {
		for first := 0; first+1 < g.Chips; first += 2 {
			many++
		}
	}
	return many
}

// beyond: numbers that no page has.
func beyond(g api.Geo) []int {
	return []int{-1, -2, room(g), room(g) + 1, 2 * room(g), math.MinInt, math.MaxInt}
}

// put: the first pages are staged in a block, one behind the other, and answered.
func put(t *testing.T, d stripe.Dev, which, many int) []stripe.Page {
	t.Helper()
	var l []stripe.Page
	for n := range many {
		p := page(d.Geo(), 1000*which+n)
		if e := stage.Put(d, which, n, p); e != api.OK {
			t.Fatal(d.Geo(), which, n, "Put:", e)
		}
		l = append(l, p)
	}
	return l
}

// gets: the pages of a block are these, one by one, and all of them.
func gets(t *testing.T, what string, d stripe.Dev, which int, l []stripe.Page) {
	t.Helper()
	for n, want := range l {
		if p, e := stage.Get(d, which, n); e != api.OK || !same(p, want) {
			t.Error(what, d.Geo(), which, n, "Get:", e, p.Head)
		}
	}
	if got, e := stage.All(d, which); e != api.OK || !slices.EqualFunc(got, l, same) {
		t.Error(what, d.Geo(), which, "All:", len(got), e)
	}
}

// isNot: a page can't be got.
func isNot(t *testing.T, what string, d stripe.Dev, which, n int, want api.Errno) {
	t.Helper()
	if p, e := stage.Get(d, which, n); e != want || !empty(p) {
		t.Error(what, d.Geo(), which, n, "Get:", e, p.Head)
	}
}

// P11.1: how many can be staged in a block.
func TestRoom(t *testing.T) {
	for _, g := range shapes {
		if n := stage.Room(g); n != room(g) {
			t.Error(g, n)
		}
	}
	for g, want := range map[api.Geo]int{least: 4, greatest: 256, {Chips: 5, Blocks: 24, Pages: 8, Size: 256}: 16, {Chips: 15, Blocks: 64, Pages: 31, Size: 256}: 217} {
		if n := stage.Room(g); n != want {
			t.Error(g, n)
		}
	}
	for _, g := range noShapes {
		if n := stage.Room(g); n < 0 || g.Chips < 2 && n != 0 {
			t.Error(g, n)
		}
	}
}

// P11.1: where each page stands: pair by pair, row by row; the chapter's example.
func TestSpot(t *testing.T) {
	for _, g := range shapes {
		n := 0
		for row := range g.Pages {
			for first := 0; first+1 < g.Chips; first += 2 {
				if r, m, e := stage.Spot(g, n); r != row || m != first || e != api.OK {
					t.Error(g, n, r, m, e)
				}
				n++
			}
		}
		for _, n := range beyond(g) {
			if r, m, e := stage.Spot(g, n); r != 0 || m != 0 || e != api.Range {
				t.Error(g, n, r, m, e)
			}
		}
	}
	if r, m, e := stage.Spot(shapes[2], 2); r != 1 || m != 0 || e != api.OK {
		t.Error("the example:", r, m, e)
	}
	for _, g := range noShapes {
		for _, n := range []int{-1, 0, 1, 4, math.MinInt, math.MaxInt} {
			if r, m, e := stage.Spot(g, n); r != 0 || m != 0 || e != api.Range {
				t.Error(g, n, r, m, e)
			}
		}
	}
}

// P11.1, P11.2: a page is programmed on both of its members, sealed, with nothing more beside it, and got.
func TestPut(t *testing.T) {
	for _, g := range shapes {
		for which := range 2 {
			d := newMembers(g)
			l := put(t, d, which, room(g))
			for n, p := range l {
				row, m, _ := stage.Spot(g, n)
				for i := range 2 {
					at := place{m + i, 4 + which, row}
					if d.done[2*n+i] != at {
						t.Error(g, which, n, "programs", d.done[2*n+i])
					}
					if x := d.pages[at]; !bytes.Equal(x.Data, p.Data) || !bytes.Equal(x.Oob, record.Seal(p.Head, p.Data, nil)) {
						t.Error(g, which, n, at, "has another page")
					}
				}
			}
			if len(d.done) != 2*len(l) || len(d.read) > 0 {
				t.Error(g, which, len(d.done), len(d.read))
			}
			gets(t, "all that has room:", d, which, l)
			gets(t, "the other block:", d, 1-which, nil)
		}
	}
}

// P11.1: pages that are put in one block aren't in the other one.
func TestBlocks(t *testing.T) {
	for _, g := range shapes[:3] {
		d := newMembers(g)
		first := put(t, d, 0, 3)
		second := put(t, d, 1, 2)
		gets(t, "block 0:", d, 0, first)
		gets(t, "block 1:", d, 1, second)
		isNot(t, "in block 0 alone:", d, 1, 2, api.IO)
		isNot(t, "in none:", d, 0, 3, api.IO)
		for m := range g.Chips {
			d.dead = map[int]bool{m: true}
			gets(t, "block 0, one dead:", d, 0, first)
			gets(t, "block 1, one dead:", d, 1, second)
		}
	}
}

// P11.1: the member that is to be ahead is, if the page stands on it; the page is got of the pair's first all the same.
func TestPutAhead(t *testing.T) {
	for _, g := range shapes[:3] {
		for first := -1; first <= g.Chips; first++ {
			d := led{newMembers(g), first}
			for n := range room(g) {
				d.done, d.read = nil, nil
				p := page(g, n)
				if e := stage.Put(d, 1, n, p); e != api.OK {
					t.Fatal(g, first, n, e)
				}
				row, m, _ := stage.Spot(g, n)
				want := []place{{m, 5, row}, {m + 1, 5, row}}
				if first == m+1 {
					slices.Reverse(want)
				}
				if !slices.Equal(d.done, want) {
					t.Error(g, first, n, d.done)
				}
				if got, e := stage.Get(d, 1, n); e != api.OK || !same(got, p) || !slices.Equal(d.read, []place{{m, 5, row}}) {
					t.Error(g, first, n, e, d.read)
				}
			}
		}
	}
}

// P11.1: pages of all kinds, the same page twice among them.
func TestPutKinds(t *testing.T) {
	g := shapes[2]
	d := newMembers(g)
	l := []stripe.Page{stripe.Fill(g, 3, 4), page(g, 9), page(g, 9)}
	for kind := range 6 {
		p := page(g, kind)
		p.Head.Kind = uint8(kind + 1)
		l = append(l, p)
	}
	for n, p := range l {
		if e := stage.Put(d, 0, n, p); e != api.OK {
			t.Error(n, e)
		}
	}
	gets(t, "all kinds:", d, 0, l)
}

// P11.1: what may not be put, or got: nothing is asked of any member then.
func TestRange(t *testing.T) {
	for _, g := range shapes {
		d := newMembers(g)
		for _, dead := range []bool{false, true} {
			for m := range g.Chips {
				d.dead[m] = dead
			}
			right := page(g, 1)
			for _, which := range []int{-1, 2, 3, -4, 6, math.MinInt, math.MaxInt} {
				if e := stage.Put(d, which, 0, right); e != api.Range {
					t.Error(g, which, "Put:", e)
				}
				isNot(t, "no such block:", d, which, 0, api.Range)
				if l, e := stage.All(d, which); e != api.Range || len(l) > 0 {
					t.Error(g, which, "All:", len(l), e)
				}
			}
			for _, n := range beyond(g) {
				if e := stage.Put(d, 0, n, right); e != api.Range {
					t.Error(g, n, "Put:", e)
				}
				isNot(t, "no such page:", d, 1, n, api.Range)
			}
			for _, data := range [][]byte{nil, {}, right.Data[1:], append(slices.Clone(right.Data), 0), make([]byte, 2*g.Size)} {
				if e := stage.Put(d, 0, 0, stripe.Page{Head: right.Head, Data: data}); e != api.Range {
					t.Error(g, len(data), "bytes:", e)
				}
			}
		}
		if len(d.done)+len(d.read) > 0 {
			t.Error(g, "programs", d.done, "reads", d.read)
		}
	}
}

// P1 (rule 6): members of a shape that is none.
func TestNoShapes(t *testing.T) {
	for _, g := range noShapes {
		d := newMembers(g)
		p := stripe.Page{Data: make([]byte, min(max(g.Size, 0), 2000))}
		for _, n := range []int{-1, 0, 1, math.MinInt, math.MaxInt} {
			if e := stage.Put(d, 0, n, p); e != api.Range {
				t.Error(g, n, "Put:", e)
			}
			isNot(t, "no shape:", d, 0, n, api.Range)
		}
		for which := -1; which <= 2; which++ {
			if l, e := stage.All(d, which); e != api.Range || len(l) > 0 {
				t.Error(g, which, "All:", len(l), e)
			}
		}
		if len(d.done)+len(d.read) > 0 {
			t.Error(g, "programs", d.done, "reads", d.read)
		}
	}
}

// P1: no Dev is told as Nil, ahead of all else.
func TestNil(t *testing.T) {
	for _, which := range []int{-1, 0, 1, 2} {
		for _, n := range []int{-1, 0, 1000} {
			for _, p := range []stripe.Page{{}, page(least, 1)} {
				if e := stage.Put(nil, which, n, p); e != api.Nil {
					t.Error(which, n, e)
				}
			}
			if p, e := stage.Get(nil, which, n); e != api.Nil || !empty(p) {
				t.Error(which, n, e)
			}
		}
		if l, e := stage.All(nil, which); e != api.Nil || len(l) > 0 {
			t.Error(which, e)
		}
	}
}

// keeper is a Dev that keeps what it gets, and hands out what it keeps.
type keeper struct {
	*members
	kept map[place]parity.Page
}

func (d keeper) Read(m, block, page int) (data, oob []byte, e api.Errno) {
	p := d.kept[place{m, block, page}]
	return p.Data, p.Oob, d.stop(m)
}

func (d keeper) Program(m, block, page int, data, oob []byte) api.Errno {
	d.kept[place{m, block, page}] = parity.Page{Data: data, Oob: oob}
	return api.OK
}

// spread makes all bytes of a list, and those of its spare room, others.
func spread(b []byte) {
	for i := range b[:cap(b)] {
		b[:cap(b)][i] ^= 0xEE
	}
}

// P1 (rule 4): what is handed in isn't changed, its spare room neither, and not kept; answers are new memory, and no two of them share any.
func TestNewMemory(t *testing.T) {
	d := keeper{newMembers(least), map[place]parity.Page{}}
	want := []stripe.Page{page(least, 1), page(least, 2)}
	for n, p := range want {
		room := append(slices.Clone(p.Data), 1, 2, 3, 4)
		if e := stage.Put(d, 0, n, stripe.Page{Head: p.Head, Data: room[:least.Size]}); e != api.OK {
			t.Fatal(e)
		}
		if !bytes.Equal(room, append(slices.Clone(p.Data), 1, 2, 3, 4)) {
			t.Error(n, "Put changes what it is given")
		}
		spread(room)
	}
	check := func(what string) {
		t.Helper()
		for n := range want {
			p, e := stage.Get(d, 0, n)
			if e != api.OK || !same(p, want[n]) {
				t.Error(what, n, e)
			}
			spread(p.Data)
		}
		l, e := stage.All(d, 0)
		if e != api.OK || len(l) != len(want) {
			t.Fatal(what, len(l), e)
		}
		for n := range want {
			if !same(l[n], want[n]) {
				t.Error(what, n, "of all")
			}
			spread(l[n].Data)
		}
	}
	check("put:")
	check("got:")
	d.dead[0] = true
	check("one is dead:")
	check("one is dead, and it was got:")
	d.dead[0] = false
	// What one member keeps may change: the other one's is its own.
	spread(d.kept[place{0, 4, 0}].Data)
	spread(d.kept[place{0, 4, 1}].Oob)
	check("one was changed:")
}

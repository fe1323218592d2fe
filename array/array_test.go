package array_test

import (
	"bytes"
	"math"
	"slices"
	"testing"

	"gabion/api"
	"gabion/array"
	"gabion/member"
	"gabion/nand"
	"gabion/record"
	"gabion/stage"
	"gabion/stripe"
	"gabion/vol"
)

// none is no member, and no chip.
const none = member.None

// least and greatest are the smallest and the greatest shape; others lie between, with an odd and with an even count of members.
var (
	least    = api.Geo{Chips: api.MinChips, Blocks: api.MinBlocks, Pages: api.MinPages, Size: api.MinSize}
	even     = api.Geo{Chips: 4, Blocks: 16, Pages: 4, Size: 256}
	odd      = api.Geo{Chips: 5, Blocks: 17, Pages: 5, Size: 320}
	greatest = api.Geo{Chips: api.MaxChips, Blocks: api.MaxBlocks, Pages: api.MaxPages, Size: api.MaxSize}
	shapes   = []api.Geo{least, even, odd, greatest}
)

// An array is a Dev, and an Ahead, of layer 10, whose blocks can be erased.
var (
	_ stripe.Dev                          = (*array.Array)(nil)
	_ stripe.Ahead                        = (*array.Array)(nil)
	_ interface{ Erase(b int) api.Errno } = (*array.Array)(nil)
)

// fresh: chips on which nothing stands.
func fresh(t *testing.T, g api.Geo, events ...nand.Event) *nand.Array {
	t.Helper()
	a, e := nand.New(g, nil, events...)
	if e != api.OK {
		t.Fatal(g, e)
	}
	return a
}

// format: a new array, on chips on which nothing stood.
func format(t *testing.T, g api.Geo) (*nand.Array, *array.Array) {
	t.Helper()
	a := fresh(t, g)
	x, e := array.Format(a)
	if e != api.OK {
		t.Fatal(g, "Format:", e)
	}
	return a, x
}

// open: an array as it was left.
func open(t *testing.T, what string, a *nand.Array) *array.Array {
	t.Helper()
	x, e := array.Open(a)
	if e != api.OK {
		t.Fatal(what, "Open:", e)
	}
	return x
}

// refused: an array that isn't opened, but answers an error.
func refused(t *testing.T, what string, a *nand.Array, want api.Errno) {
	t.Helper()
	if x, e := array.Open(a); x != nil || e != want {
		t.Error(what, "Open:", x, e, "want", want)
	}
}

// sample: n bytes, the same in each run.
func sample(n int, seed uint32) []byte {
	b := make([]byte, n)
	for i := range b {
		seed = seed*1664525 + 1013904223
		b[i] = byte(seed >> 24)
	}
	return b
}

// page: one of data, with another value in each of its header's numbers.
func page(g api.Geo, seed int) stripe.Page {
	n := uint32(seed)
	h := record.Header{Kind: record.Data, Epoch: 0x04030201 + n, Batch: 0x08070605 + n, Index: uint16(0x0A09 + n), Count: uint16(0x0C0B + n), Block: 0x100F0E0D + n, More: 0x14131211 + n}
	return stripe.Page{Head: h, Data: sample(g.Size, n)}
}

// pages: those of one stripe.
func pages(g api.Geo, seed int) []stripe.Page {
	var l []stripe.Page
	for i := range g.Chips - 1 {
		l = append(l, page(g, seed*20+i))
	}
	return l
}

// same: are two pages one?
func same(a, b stripe.Page) bool { return a.Head == b.Head && bytes.Equal(a.Data, b.Data) }

// sealed: a page's bytes, and those beside it.
func sealed(p stripe.Page) (data, oob []byte) { return p.Data, record.Seal(p.Head, p.Data, nil) }

// erased: are bytes as an erased page's?
func erased(b []byte) bool { return !slices.ContainsFunc(b, func(x byte) bool { return x != 255 }) }

// sameSet: are two sets one?
func sameSet(a, b member.Set) bool {
	return a.Seq == b.Seq && slices.Equal(a.Chips, b.Chips) && a.Spare == b.Spare && a.Dead == b.Dead && a.Done == b.Done
}

// isSet: is an array's set this one?
func isSet(t *testing.T, what string, x *array.Array, want member.Set) {
	t.Helper()
	if s := x.Set(); !sameSet(s, want) {
		t.Error(what, "the set is", s, "want", want)
	}
}

// first: the set of a new array, with a number.
func first(g api.Geo, seq uint32) member.Set {
	s := member.First(g)
	s.Seq = seq
	return s
}

// with: a set that is changed, and shares nothing with the one it was.
func with(s member.Set, change func(s *member.Set)) member.Set {
	s.Chips = slices.Clone(s.Chips)
	change(&s)
	return s
}

// chip: a chip's volume as it stands, on a copy of its own, so that no operation is taken.
func chip(t *testing.T, what string, a *nand.Array, c int) *vol.Vol {
	t.Helper()
	a = a.Copy()
	a.Boot()
	v, e := vol.Open(a, c)
	if e != api.OK {
		t.Fatal(what, "chip", c, e)
	}
	return v
}

// onChip: the set that stands in a chip's virtual block 0 or 1; false: none does.
func onChip(t *testing.T, what string, a *nand.Array, c, b int) (member.Set, bool) {
	t.Helper()
	data, oob, e := chip(t, what, a, c).Read(b, 0)
	if e != api.OK {
		t.Fatal(what, "chip", c, e)
	}
	s, e := member.Parse(a.Geo(), data, oob)
	return s, e == api.OK
}

// saved: does a set stand on these chips, where its number says, and as their newest one?
func saved(t *testing.T, what string, a *nand.Array, want member.Set, chips ...int) {
	t.Helper()
	for _, c := range chips {
		b := int(want.Seq % 2)
		if s, ok := onChip(t, what, a, c, b); !ok || !sameSet(s, want) {
			t.Error(what, "chip", c, "has", s, ok, "want", want)
		}
		if s, ok := onChip(t, what, a, c, 1-b); ok && s.Seq >= want.Seq {
			t.Error(what, "chip", c, "has a newer one:", s)
		}
	}
}

// P13.1: a new array: its members are chips 0, 1, ..; the set is saved on them; the chip in reserve isn't touched.
func TestFormat(t *testing.T) {
	for _, g := range shapes {
		a, x := format(t, g)
		if x.Geo() != g || x.Lost() || x.Ahead() != -1 {
			t.Error(g, x.Geo(), x.Lost(), x.Ahead())
		}
		want := first(g, 2)
		isSet(t, "new:", x, want)
		saved(t, "new:", a, want, want.Chips...)
		for c := range g.Chips {
			data, oob, e := chip(t, "new:", a, c).Read(1, 0)
			if e != api.OK || !erased(data) || !erased(oob) {
				t.Error(g, c, "something stands in block 1", e)
			}
		}
		if _, e := vol.Open(a.Copy(), g.Chips); e != api.Form || slices.Max(a.Erases(g.Chips)) != 0 {
			t.Error(g, "the chip in reserve:", e)
		}
	}
}

// P13.1: the pages of a new array are erased, and can be programmed, each member's its own.
func TestFormatted(t *testing.T) {
	_, x := format(t, odd)
	for m := range odd.Chips {
		for b := range odd.Virtual() {
			for p := range odd.Pages {
				data, oob, e := x.Read(m, b, p)
				if set := b == 0 && p == 0; e != api.OK || len(data) != odd.Size || len(oob) != api.Oob || !set && !(erased(data) && erased(oob)) {
					t.Fatal(m, b, p, e, len(data), len(oob))
				}
			}
		}
	}
}

// P13.1: Format of chips that held another array.
func TestFormatAgain(t *testing.T) {
	a, x := format(t, least)
	if e := stripe.Write(x, 6, 0, pages(least, 1)...); e != api.OK {
		t.Fatal(e)
	}
	for range 4 {
		open(t, "ahead of it:", a)
	}
	y, e := array.Format(a)
	if e != api.OK {
		t.Fatal(e)
	}
	isSet(t, "formatted again:", y, first(least, 2))
	if _, is, e := stripe.Row(y, 6, 0); is != stripe.Blank || e != api.OK {
		t.Error(is, e)
	}
	isSet(t, "opened then:", open(t, "formatted again:", a), first(least, 3))
}

// P13.3: Format of chips of which that in reserve was a member of another array, that says so with a greater number.
func TestFormatWhereReserveWasMember(t *testing.T) {
	for _, wiped := range []bool{false, true} {
		a, x := format(t, least)
		if wiped {
			wipe(t, a, 1)
		} else {
			a.Kill(1)
		}
		x = open(t, "one is dead:", a)
		full(t, "ahead of it:", x)
		if e := stripe.Write(x, 6, 0, pages(least, 1)...); e != api.OK {
			t.Fatal(e)
		}
		y, e := array.Format(a)
		if e != api.OK {
			t.Fatal(e)
		}
		want := first(least, 2)
		if !wiped {
			want.Dead = 1
		}
		isSet(t, "formatted again:", y, want)
		saved(t, "formatted again:", a, want, 0, 2, 3)
		l := pages(least, 2)
		if e := stripe.Write(y, 6, 0, l...); e != api.OK {
			t.Fatal(e)
		}
		want.Seq = 3
		z := open(t, "formatted again:", a)
		isSet(t, "opened then:", z, want)
		reads(t, "opened then:", z, 6, 0, l)
	}
}

// P13.1: that chip in reserve can't be asked any longer: there is none.
func TestFormatWhereReserveIsDead(t *testing.T) {
	a, _ := format(t, least)
	a.Kill(2)
	x := open(t, "one is dead:", a)
	if _, e := x.Tick(); e != api.OK {
		t.Fatal(e)
	}
	a.Kill(3)
	x, e := array.Format(a)
	if e != api.OK {
		t.Fatal(e)
	}
	isSet(t, "that in reserve is dead:", x, with(first(least, 2), func(s *member.Set) { s.Spare, s.Dead = none, 2 }))
}

// P13.1: Format of nothing, of an array without chips, without power, of chips with too few blocks.
func TestFormatRefuses(t *testing.T) {
	off := fresh(t, least, nand.Event{Op: 1, Kind: nand.Crash})
	off.Erase(0, 0)
	bad := func(chip int) *nand.Array {
		var l [][2]int
		for b := range api.Spare + 1 {
			l = append(l, [2]int{chip, b * 2})
		}
		a, _ := nand.New(least, l)
		return a
	}
	two := fresh(t, least)
	two.Kill(0)
	two.Kill(2)
	for _, x := range []struct {
		what string
		a    *nand.Array
		want api.Errno
	}{
		{"nil", nil, api.Nil}, {"no chips", &nand.Array{}, api.Range}, {"no power", off, api.Crash},
		{"bad blocks on chip 0", bad(0), api.Fail}, {"bad blocks on chip 2", bad(2), api.Fail}, {"two dead", two, api.Lost},
	} {
		if got, e := array.Format(x.a); got != nil || e != x.want {
			t.Error(x.what, got, e)
		}
	}
	// The chip in reserve isn't asked.
	if x, e := array.Format(bad(3)); e != api.OK {
		t.Error("bad blocks in reserve:", e)
	} else {
		isSet(t, "bad blocks in reserve:", x, first(least, 2))
	}
}

// P13.1: a set that is answered is new memory.
func TestSetIsNew(t *testing.T) {
	_, x := format(t, least)
	s := x.Set()
	s.Chips[0], s.Dead = 3, 1
	isSet(t, "changed outside:", x, first(least, 2))
	s = x.Set()
	_ = append(s.Chips[:1], 77, 77)
	isSet(t, "changed outside:", x, first(least, 2))
}

// P1 (rule 6): an array that is nil, or wasn't made by a call.
func TestNil(t *testing.T) {
	for _, x := range []*array.Array{nil, {}} {
		if x.Geo() != (api.Geo{}) || !sameSet(x.Set(), member.Set{}) || x.Lost() || x.Ahead() != -1 {
			t.Error(x.Geo(), x.Set(), x.Lost(), x.Ahead())
		}
		for _, n := range []int{math.MinInt, -1, 0, 6, math.MaxInt} {
			if data, oob, e := x.Read(n, n, n); len(data)+len(oob) > 0 || e != api.Nil {
				t.Error(n, e)
			}
			if e := x.Program(n, n, n, make([]byte, 256), make([]byte, 64)); e != api.Nil {
				t.Error(n, e)
			}
			if e := x.Erase(n); e != api.Nil {
				t.Error(n, e)
			}
		}
		if all, e := x.Tick(); all || e != api.Nil {
			t.Error(all, e)
		}
		// A shape that is none has no stripes.
		if _, is, e := stripe.Row(x, 6, 0); is != 0 || e != api.Range {
			t.Error(is, e)
		}
		if l, e := stage.All(x, 0); len(l) > 0 || e != api.Range {
			t.Error(l, e)
		}
	}
}

package remap_test

import (
	"math"
	"slices"
	"testing"

	"gabion/api"
	"gabion/remap"
)

// Shapes: the smallest, the greatest, some between.
var (
	small  = api.Geo{Chips: api.MinChips, Blocks: api.MinBlocks, Pages: api.MinPages, Size: api.MinSize}
	large  = api.Geo{Chips: api.MaxChips, Blocks: api.MaxBlocks, Pages: api.MaxPages, Size: api.MaxSize}
	shapes = []api.Geo{small, large, {Chips: 4, Blocks: 17, Pages: 5, Size: 320}, {Chips: 3, Blocks: 33, Pages: 8, Size: 256}}
)

// wrongShapes: shapes that may not be, but that have as many virtual blocks as the smallest one, and others.
func wrongShapes() []api.Geo {
	l := []api.Geo{{}, {Blocks: 16}, {Chips: -3, Blocks: -16, Pages: -4, Size: -256}, {Chips: math.MaxInt, Blocks: math.MaxInt, Pages: math.MaxInt, Size: math.MaxInt}, {Chips: math.MinInt, Blocks: math.MinInt, Pages: math.MinInt, Size: math.MinInt}}
	for range 6 {
		l = append(l, small)
	}
	n := len(l)
	l[n-6].Chips, l[n-5].Chips, l[n-4].Pages, l[n-3].Pages, l[n-2].Size, l[n-1].Size = 2, 17, 3, 33, 192, 257
	return l
}

// table: one of a shape, with so many blocks in reserve; its blocks stand in no order, block 0 and the last one among them.
func table(g api.Geo, seq uint32, spare int) remap.Table {
	var l []int
	for i := range g.Blocks {
		l = append(l, (i*7+g.Blocks-1)%g.Blocks)
	}
	if g.Blocks%7 == 0 {
		panic("7 goes into the blocks")
	}
	n := g.Virtual()
	return remap.Table{Seq: seq, Place: l[:n:n], Spare: slices.Clone(l[n : n+spare]), Tables: [2]int{l[n+3], l[n+4]}}
}

// copyOf: the same table, by itself.
func copyOf(t remap.Table) remap.Table {
	t.Place, t.Spare = slices.Clone(t.Place), slices.Clone(t.Spare)
	return t
}

// same: are two tables one?
func same(a, b remap.Table) bool {
	return a.Seq == b.Seq && slices.Equal(a.Place, b.Place) && slices.Equal(a.Spare, b.Spare) && a.Tables == b.Tables
}

// zero: is it none?
func zero(t remap.Table) bool { return same(t, remap.Table{}) }

// wrong: tables that are none of a shape, each by what is wrong with it.
func wrong(g api.Geo) map[string]remap.Table {
	m := map[string]remap.Table{"none": {}, "only a number": {Seq: 1}}
	with := func(name string, change func(t *remap.Table)) {
		t := table(g, 7, 2)
		change(&t)
		m[name] = t
	}
	n := g.Virtual()
	with("a place too few", func(t *remap.Table) { t.Place = t.Place[:n-1] })
	with("a place too many", func(t *remap.Table) { t.Place, t.Spare = append(t.Place, t.Spare[0]), t.Spare[1:] })
	with("no places", func(t *remap.Table) { t.Place = nil })
	for name, b := range map[string]int{"-1": -1, "Blocks": g.Blocks, "the least": math.MinInt, "the greatest": math.MaxInt, "256 and one": 256 + g.Blocks - 1, "2^32": 1 << 32} {
		with("place: "+name, func(t *remap.Table) { t.Place[0] = b })
		with("the last place: "+name, func(t *remap.Table) { t.Place[n-1] = b })
		with("reserve: "+name, func(t *remap.Table) { t.Spare[1] = b })
		with("first of the tables: "+name, func(t *remap.Table) { t.Tables[0] = b })
		with("second of the tables: "+name, func(t *remap.Table) { t.Tables[1] = b })
	}
	with("twice a place", func(t *remap.Table) { t.Place[n-1] = t.Place[0] })
	with("twice in reserve", func(t *remap.Table) { t.Spare[1] = t.Spare[0] })
	with("twice of the tables", func(t *remap.Table) { t.Tables[1] = t.Tables[0] })
	with("a place and in reserve", func(t *remap.Table) { t.Spare[0] = t.Place[n-1] })
	with("a place and the first of the tables", func(t *remap.Table) { t.Tables[0] = t.Place[0] })
	with("a place and the second of the tables", func(t *remap.Table) { t.Tables[1] = t.Place[0] })
	with("in reserve and the first of the tables", func(t *remap.Table) { t.Tables[0] = t.Spare[1] })
	with("in reserve and the second of the tables", func(t *remap.Table) { t.Tables[1] = t.Spare[0] })
	with("a reserve without end", func(t *remap.Table) { t.Spare = make([]int, 300) })
	return m
}

// P6.1: what is a table of a shape, and what isn't; the shape is asked first.
func TestCheck(t *testing.T) {
	for _, g := range shapes {
		for spare := range 4 {
			if e := table(g, 0, spare).Check(g); e != api.OK {
				t.Error(g, spare, e)
			}
		}
		last := table(g, 1<<32-1, 0)
		last.Spare = []int{}
		if e := last.Check(g); e != api.OK {
			t.Error(g, "an empty reserve:", e)
		}
		for name, x := range wrong(g) {
			if e := x.Check(g); e != api.Form {
				t.Error(g, name, e)
			}
		}
	}
	for _, g := range wrongShapes() {
		if e := table(small, 1, 3).Check(g); e != api.Range {
			t.Error(g, e)
		}
		if e := (remap.Table{}).Check(g); e != api.Range {
			t.Error(g, "none:", e)
		}
	}
	if e := table(small, 1, 3).Check(shapes[2]); e != api.Form {
		t.Error("another shape:", e)
	}
}

// The blocks that Blocks - 1 and 0 name are the last ones that may be, wherever they stand.
func TestCheckTheEdges(t *testing.T) {
	for _, g := range shapes {
		x := table(g, 1, 3)
		for i := range g.Blocks {
			// All blocks go round through all places.
			y := copyOf(x)
			for _, l := range [][]int{y.Place, y.Spare, y.Tables[:]} {
				for j := range l {
					l[j] = (l[j] + i) % g.Blocks
				}
			}
			if e := y.Check(g); e != api.OK {
				t.Error(g, i, e)
			}
		}
	}
}

// P6.1, P6.3: the first block in reserve is the place of a virtual block, or of one that holds tables; the block that it was is told; the table stays one.
func TestTake(t *testing.T) {
	for _, g := range shapes {
		for v := -2; v < g.Virtual(); v++ {
			x := table(g, 9, 3)
			was := copyOf(x)
			for spare := 3; spare > 0; spare-- {
				want := copyOf(x)
				place := &want.Tables[0]
				switch {
				case v == -2:
					place = &want.Tables[1]
				case v >= 0:
					place = &want.Place[v]
				}
				out := *place
				*place, want.Spare = want.Spare[0], want.Spare[1:]
				got, b, e := x.Take(v)
				if e != api.OK || b != out || !same(got, want) {
					t.Fatal(g, v, e, b, got, "want", out, want)
				}
				if e := got.Check(g); e != api.OK {
					t.Error(g, v, "is none any longer:", e)
				}
				x = got
			}
			if got, b, e := x.Take(v); e != api.Fail || b != 0 || !same(got, x) {
				t.Error(g, v, "without a reserve:", e, b, got)
			}
			if x = table(g, 9, 3); !same(x, was) {
				t.Error(g, v, "another table is changed")
			}
		}
	}
}

// P6.1: of what isn't there, and without a reserve, Take fails, and the table is as it is.
func TestTakeFails(t *testing.T) {
	for _, g := range shapes {
		for _, v := range []int{-3, -4, -256, math.MinInt, g.Virtual(), g.Virtual() + 1, g.Blocks, math.MaxInt} {
			x := table(g, 9, 3)
			if got, b, e := x.Take(v); e != api.Fail || b != 0 || !same(got, x) {
				t.Error(g, v, e, b, got)
			}
		}
		for _, none := range [][]int{nil, {}} {
			x := table(g, 9, 0)
			x.Spare = none
			for _, v := range []int{-3, -2, -1, 0, g.Virtual() - 1, g.Virtual()} {
				if got, b, e := x.Take(v); e != api.Fail || b != 0 || !same(got, x) {
					t.Error(g, v, "without a reserve:", e, b, got)
				}
			}
		}
	}
	if got, b, e := (remap.Table{}).Take(0); e != api.Fail || b != 0 || !zero(got) {
		t.Error("of none:", e, b, got)
	}
	// What isn't a table is borne, too: it has what it names.
	odd := remap.Table{Spare: []int{-5}, Tables: [2]int{300, 301}}
	if got, b, e := odd.Take(-2); e != api.OK || b != 301 || got.Tables != [2]int{300, -5} || len(got.Spare) != 0 {
		t.Error("of an odd one:", e, b, got)
	}
	if _, _, e := odd.Take(0); e != api.Fail {
		t.Error("of an odd one without places:", e)
	}
}

// P1 (rule 4): a table is left as it is, its lists' spare room too; another one is new memory.
func TestTakeLeavesItsTable(t *testing.T) {
	room := []int{2, 3, 4, 5, 6, 7, 8, 9, 10, 11, 12, 13, 14, 15, 99, 98}
	kept := slices.Clone(room)
	x := remap.Table{Seq: 1, Place: room[:11], Spare: room[11:14], Tables: [2]int{0, 1}}
	for _, v := range []int{-2, -1, 0, 10, 11} {
		got, _, _ := x.Take(v)
		if !slices.Equal(room, kept) || x.Tables != [2]int{0, 1} {
			t.Fatal(v, "is changed:", room)
		}
		clear(got.Place[:cap(got.Place)])
		clear(got.Spare[:cap(got.Spare)])
		if !slices.Equal(room, kept) {
			t.Fatal(v, "shares memory:", room)
		}
	}
	first, _, _ := x.Take(0)
	second, _, _ := x.Take(0)
	first.Place[1], first.Spare[0] = 77, 78
	if second.Place[1] != 3 || second.Spare[0] != 14 {
		t.Error("two answers share memory:", second)
	}
	first, _, _ = x.Take(0)
	_ = append(first.Place, 50)
	_ = append(first.Spare, 51)
	if !slices.Equal(first.Place, []int{13, 3, 4, 5, 6, 7, 8, 9, 10, 11, 12}) || !slices.Equal(first.Spare, []int{14, 15}) {
		t.Error("two lists of an answer share memory:", first)
	}
}

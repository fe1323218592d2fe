package geom_test

import (
	"math"
	"math/big"
	"slices"
	"testing"

	"gabion/api"
	"gabion/geom"
)

// Shapes: the least, the greatest, some between.
var (
	small  = api.Geo{Chips: api.MinChips, Blocks: api.MinBlocks, Pages: api.MinPages, Size: api.MinSize}
	large  = api.Geo{Chips: api.MaxChips, Blocks: api.MaxBlocks, Pages: api.MaxPages, Size: api.MaxSize}
	middle = api.Geo{Chips: 4, Blocks: 24, Pages: 8, Size: 256}
	shapes = []api.Geo{small, large, middle, {Chips: 4, Blocks: 16, Pages: 5, Size: 320}, {Chips: 5, Blocks: 17, Pages: 4, Size: 512}, {Chips: 7, Blocks: 33, Pages: 21, Size: 960}, {Chips: 16, Blocks: 16, Pages: 4, Size: 256}, {Chips: 3, Blocks: 64, Pages: 32, Size: 256}}
)

// edges: numbers around a limit, and far from all.
func edges(many int) []int {
	return []int{math.MinInt, math.MinInt + 1, math.MinInt32, -many - 1, -many, -1, 0, 1, many - 1, many, many + 1, 1 << 32, math.MaxInt - 1, math.MaxInt}
}

// wrongShapes: shapes that may not be.
func wrongShapes() []api.Geo {
	l := []api.Geo{{}, {Chips: 3}, {Blocks: 16}, {Pages: 4}, {Chips: 4, Pages: 8}, {Chips: -3, Blocks: -16, Pages: -4, Size: -256}}
	for _, n := range edges(17) {
		for range 4 {
			l = append(l, middle)
		}
		i := len(l)
		l[i-4].Chips, l[i-3].Blocks, l[i-2].Pages, l[i-1].Size = n, n, n, n
		l = append(l, api.Geo{Chips: n, Blocks: n, Pages: n, Size: n})
	}
	for range 8 {
		l = append(l, middle)
	}
	i := len(l)
	l[i-8].Chips, l[i-7].Chips, l[i-6].Blocks, l[i-5].Blocks = 2, 17, 15, 65
	l[i-4].Pages, l[i-3].Pages, l[i-2].Size, l[i-1].Size = 3, 33, 192, 1088
	return slices.DeleteFunc(l, func(g api.Geo) bool { return g.Check() == api.OK })
}

// parity: which member has a stripe's parity, reckoned with numbers of any length.
func parity(g api.Geo, seg, row int) int {
	n := new(big.Int).Mul(big.NewInt(int64(seg)), big.NewInt(int64(g.Pages)))
	n.Add(n, big.NewInt(int64(row)))
	return int(n.Mod(n, big.NewInt(int64(g.Chips))).Int64())
}

// data: the members that have a stripe's data, in order.
func data(g api.Geo, seg, row int) []int {
	var l []int
	for m := range g.Chips {
		if m != parity(g, seg, row) {
			l = append(l, m)
		}
	}
	return l
}

// The numbers that the document names.
func TestConstants(t *testing.T) {
	if geom.Members != 0 || geom.Points != 2 || geom.Stages != 4 || geom.First != 6 {
		t.Error("another constant")
	}
}

// P8.1: the example.
func TestExample(t *testing.T) {
	if p := geom.Parity(middle, 6, 1); p != 1 {
		t.Error("parity:", p)
	}
	if m := geom.Member(middle, geom.Place{Seg: 6, Row: 1, Slot: 1}); m != 2 {
		t.Error("member:", m)
	}
}

// P8.1: a stripe's width, of any shape.
func TestWidth(t *testing.T) {
	for chips := api.MinChips; chips <= api.MaxChips; chips++ {
		g := middle
		g.Chips = chips
		if w := geom.Width(g); w != chips-1 {
			t.Error(chips, w)
		}
	}
	for chips, want := range map[int]int{math.MinInt: 1, math.MinInt + 1: 1, -1: 1, 0: 1, 1: 1, 2: 1, 17: 16, 1000: 999, math.MaxInt: math.MaxInt - 1} {
		if w := geom.Width(api.Geo{Chips: chips}); w != want {
			t.Error(chips, w)
		}
	}
}

// P8.1: which member has a parity, of all stripes and of those that aren't there.
func TestParity(t *testing.T) {
	for _, g := range shapes {
		n := 0
		for seg := range g.Virtual() {
			for row := range g.Pages {
				if p := geom.Parity(g, seg, row); p != n%g.Chips {
					t.Fatal(g, seg, row, p)
				}
				n++
			}
		}
		for _, seg := range edges(g.Virtual()) {
			for _, row := range edges(g.Pages) {
				if p := geom.Parity(g, seg, row); p != parity(g, seg, row) || p < 0 || p >= g.Chips {
					t.Error(g, seg, row, p)
				}
			}
		}
	}
}

// P8.1: which member has a slot, and back; the parity's member has none, and one that isn't there.
func TestMemberAndSlot(t *testing.T) {
	for _, g := range shapes {
		for _, seg := range append(edges(g.Virtual()), 6, 7, 8) {
			for _, row := range append(edges(g.Pages), 2, 3) {
				for slot, m := range data(g, seg, row) {
					if got := geom.Member(g, geom.Place{Seg: seg, Row: row, Slot: slot}); got != m {
						t.Error(g, seg, row, slot, "is on", got)
					}
					if got, ok := geom.Slot(g, seg, row, m); got != slot || !ok {
						t.Error(g, seg, row, "member", m, "has", got, ok)
					}
				}
				none := []int{math.MinInt, -g.Chips, -1, parity(g, seg, row), g.Chips, g.Chips + 1, 2 * g.Chips, math.MaxInt}
				for _, m := range none {
					if got, ok := geom.Slot(g, seg, row, m); got != 0 || ok {
						t.Error(g, seg, row, "member", m, "has", got, ok)
					}
				}
			}
		}
	}
}

// P8.1: a slot that no stripe has is on none of the members.
func TestMemberOfNone(t *testing.T) {
	for _, g := range shapes {
		for seg := range g.Virtual() {
			for row := range g.Pages {
				for _, slot := range []int{math.MinInt, -g.Chips, -1, geom.Width(g), g.Chips, 1 << 40, math.MaxInt} {
					if m := geom.Member(g, geom.Place{Seg: seg, Row: row, Slot: slot}); m >= 0 && m < g.Chips {
						t.Fatal(g, seg, row, slot, "is on", m)
					}
				}
			}
		}
	}
}

// P8.2: a stripe's slots and its parity stand on all members, each on one.
func TestStripeOnAll(t *testing.T) {
	for _, g := range shapes {
		for seg := range g.Virtual() {
			for row := range g.Pages {
				on := make([]int, g.Chips)
				on[geom.Parity(g, seg, row)]++
				for slot := range geom.Width(g) {
					on[geom.Member(g, geom.Place{Seg: seg, Row: row, Slot: slot})]++
				}
				if slices.Min(on) != 1 || slices.Max(on) != 1 {
					t.Fatal(g, seg, row, on)
				}
				with := 0
				for m := range g.Chips {
					slot, ok := geom.Slot(g, seg, row, m)
					if ok {
						with++
					}
					if ok && geom.Member(g, geom.Place{Seg: seg, Row: row, Slot: slot}) != m {
						t.Fatal(g, seg, row, m, "has", slot)
					}
				}
				if with != geom.Width(g) {
					t.Fatal(g, seg, row, with)
				}
			}
		}
	}
}

// P8.1, P8.3: all places are counted through, from 1 on, and back.
func TestNumberAndAt(t *testing.T) {
	for _, g := range shapes {
		n := uint32(0)
		for seg := range g.Virtual() {
			for row := range g.Pages {
				for slot := range g.Chips - 1 {
					n++
					p := geom.Place{Seg: seg, Row: row, Slot: slot}
					if got := geom.Number(g, p); got != n {
						t.Fatal(g, p, got)
					}
					if got, ok := geom.At(g, n); got != p || !ok {
						t.Fatal(g, n, got, ok)
					}
				}
			}
		}
		for _, none := range []uint32{0, n + 1, n + 2, 2*n + 1, 1 << 16, 1 << 31, 1<<31 + 1, 1<<32 - 1} {
			if got, ok := geom.At(g, none); got != (geom.Place{}) || ok {
				t.Error(g, none, got, ok)
			}
		}
	}
	if n := geom.Number(large, geom.Place{Seg: 58, Row: 31, Slot: 14}); n != 59*32*15 {
		t.Error("the greatest:", n)
	}
	if n := geom.Number(small, geom.Place{Seg: 10, Row: 3, Slot: 1}); n != 88 {
		t.Error("the greatest of the least shape:", n)
	}
}

// P8.1: a place that isn't there has no number.
func TestNumberOfNone(t *testing.T) {
	there := func(n, many int) bool { return n >= 0 && n < many }
	for _, g := range shapes {
		for _, seg := range edges(g.Virtual()) {
			for _, row := range edges(g.Pages) {
				for _, slot := range edges(g.Chips - 1) {
					p := geom.Place{Seg: seg, Row: row, Slot: slot}
					is := there(seg, g.Virtual()) && there(row, g.Pages) && there(slot, g.Chips-1)
					if n := geom.Number(g, p); (n > 0) != is {
						t.Error(g, p, n)
					}
				}
			}
		}
	}
}

// P8.1: of a shape that is none no place has a number, no number a place, and there are no logical blocks.
func TestWrongShapes(t *testing.T) {
	for _, g := range wrongShapes() {
		for _, p := range []geom.Place{{}, {Seg: 1}, {Seg: 6, Row: 1, Slot: 1}, {Seg: -1, Row: -1, Slot: -1}} {
			if n := geom.Number(g, p); n != 0 {
				t.Error(g, p, n)
			}
		}
		for _, n := range []uint32{0, 1, 2, 88, 1<<32 - 1} {
			if p, ok := geom.At(g, n); p != (geom.Place{}) || ok {
				t.Error(g, n, p, ok)
			}
		}
		if n := geom.Capacity(g); n != 0 {
			t.Error(g, n)
		}
		if n := geom.Segments(g); n < 0 || n > max(g.Blocks, 0) {
			t.Error(g, n)
		}
	}
}

// P8.4: of Chips rows one behind the other each member has one parity, over the ends of segments as well.
func TestParityOnEach(t *testing.T) {
	for _, g := range shapes {
		var all []int
		for seg := range g.Virtual() {
			for _, m := range geom.Rows(g, seg) {
				all = append(all, m)
			}
		}
		if len(all) != g.Virtual()*g.Pages {
			t.Fatal(g, len(all))
		}
		for from := range len(all) - g.Chips {
			of := slices.Sorted(slices.Values(all[from : from+g.Chips]))
			if of[0] != 0 || of[g.Chips-1] != g.Chips-1 || len(slices.Compact(of)) != g.Chips {
				t.Fatal(g, from, of)
			}
		}
	}
}

// row is what Rows gives out.
type row struct{ row, member int }

// rows: all that Rows gives out.
func rows(g api.Geo, seg int) []row {
	var l []row
	for r, m := range geom.Rows(g, seg) {
		l = append(l, row{r, m})
	}
	return l
}

// P8.1: rows in order, each with its parity's member, of segments that are there and of others.
func TestRows(t *testing.T) {
	for _, g := range shapes {
		for _, seg := range append(edges(g.Virtual()), 2, 6, 7) {
			var want []row
			for r := range g.Pages {
				want = append(want, row{r, parity(g, seg, r)})
			}
			if got := rows(g, seg); !slices.Equal(got, want) {
				t.Error(g, seg, got)
			}
		}
	}
}

// P1 (rule 8): an iterator may be gone through again, also within itself, and left at any row; it is never nil.
func TestRowsAgain(t *testing.T) {
	for _, g := range shapes {
		seq := geom.Rows(g, 7)
		other := geom.Rows(g, 8)
		want := rows(g, 7)
		for left := range g.Pages {
			var got []row
			for r, m := range seq {
				got = append(got, row{r, m})
				if r == left {
					break
				}
			}
			if !slices.Equal(got, want[:left+1]) {
				t.Error(g, "left at", left, got)
			}
		}
		var got []row
		for r, m := range seq {
			got = append(got, row{r, m})
			within := 0
			for range seq {
				within++
			}
			for range other {
				within++
			}
			if within != 2*g.Pages {
				t.Error(g, r, within)
			}
		}
		if !slices.Equal(got, want) {
			t.Error(g, "gone through again:", got)
		}
	}
	for _, g := range append(wrongShapes(), shapes...) {
		for _, seg := range edges(g.Virtual()) {
			if geom.Rows(g, seg) == nil {
				t.Error(g, seg, "is nil")
			}
		}
	}
}

// P8.1: how many there are, reckoned by hand.
func TestCounts(t *testing.T) {
	for _, x := range []struct {
		g                                api.Geo
		segments, pages, pairs, capacity int
	}{
		{small, 5, 8, 1, 4},
		{large, 53, 480, 8, 11760},
		{middle, 13, 24, 2, 108},
		{api.Geo{Chips: 3, Blocks: 24, Pages: 8, Size: 256}, 13, 16, 1, 72},
		{api.Geo{Chips: 4, Blocks: 16, Pages: 5, Size: 320}, 5, 15, 2, 7},
		{api.Geo{Chips: 5, Blocks: 17, Pages: 4, Size: 512}, 6, 16, 2, 16},
		{api.Geo{Chips: 15, Blocks: 64, Pages: 31, Size: 256}, 53, 434, 7, 10633},
		{api.Geo{Chips: 3, Blocks: 64, Pages: 4, Size: 256}, 53, 8, 1, 196},
	} {
		if a, b, c, d := geom.Segments(x.g), geom.Pages(x.g), geom.Pairs(x.g), geom.Capacity(x.g); a != x.segments || b != x.pages || c != x.pairs || d != x.capacity {
			t.Error(x.g, a, b, c, d)
		}
	}
}

// P8.1: how many there are, of each shape; what a map has room for is never the lesser of both, for a page has at least 64 numbers.
func TestCountsOfAll(t *testing.T) {
	for chips := api.MinChips; chips <= api.MaxChips; chips++ {
		for blocks := api.MinBlocks; blocks <= api.MaxBlocks; blocks++ {
			for pages := api.MinPages; pages <= api.MaxPages; pages++ {
				for size := api.MinSize; size <= api.MaxSize; size += 64 {
					g := api.Geo{Chips: chips, Blocks: blocks, Pages: pages, Size: size}
					of := pages * (chips - 1)
					want := min((blocks-15)*of/2, (of*size-32)/4-(blocks-5))
					if geom.Segments(g) != blocks-11 || geom.Pages(g) != of || geom.Pairs(g) != chips/2 || geom.Capacity(g) != want {
						t.Fatal(g, geom.Segments(g), geom.Pages(g), geom.Pairs(g), geom.Capacity(g))
					}
				}
			}
		}
	}
}

// P8.1: where there are too few blocks, there are no segments; where there are too few segments, no logical blocks. Only shapes that are none have so few.
func TestFewBlocks(t *testing.T) {
	g := middle
	for blocks, want := range map[int]int{math.MinInt: 0, math.MinInt + 4: 0, -1: 0, 0: 0, 5: 0, 10: 0, 11: 0, 12: 1, 15: 4} {
		g.Blocks = blocks
		if n := geom.Segments(g); n != want {
			t.Error(blocks, "segments:", n)
		}
		if n := geom.Capacity(g); n != 0 {
			t.Error(blocks, "logical blocks:", n)
		}
	}
	g.Blocks = 16
	if n := geom.Capacity(g); n != 12 {
		t.Error("one segment more than four:", n)
	}
}

// P1 (rules 5, 6): every call ends, whatever it is given, and answers the same again.
func TestEveryCallEnds(t *testing.T) {
	for _, g := range append(wrongShapes(), shapes...) {
		for _, n := range edges(9) {
			for _, m := range edges(5) {
				p := geom.Place{Seg: n, Row: m, Slot: n ^ m}
				slot, ok := geom.Slot(g, n, m, m)
				again, so := geom.Slot(g, n, m, m)
				if slot != again || ok != so || !ok && slot != 0 {
					t.Error(g, n, m, slot, ok, again, so)
				}
				if geom.Parity(g, n, m) != geom.Parity(g, n, m) || geom.Member(g, p) != geom.Member(g, p) || geom.Number(g, p) != geom.Number(g, p) {
					t.Error(g, p, "answers otherwise")
				}
				geom.At(g, uint32(n))
			}
			if !slices.Equal(rows(g, n), rows(g, n)) {
				t.Error(g, n, "other rows")
			}
		}
		if geom.Width(g) < 1 || geom.Pairs(g) != geom.Pairs(g) || geom.Pages(g) != geom.Pages(g) {
			t.Error(g, geom.Width(g))
		}
	}
}

package vol_test

import (
	"bytes"
	"math"
	"slices"
	"testing"

	"gabion/api"
	"gabion/nand"
	"gabion/record"
	"gabion/remap"
	"gabion/vol"
)

// small is the least shape that may be.
var small = api.Geo{Chips: api.MinChips, Blocks: api.MinBlocks, Pages: api.MinPages, Size: api.MinSize}

// formatted is how many operations Format of a small chip takes, if nothing comes: each block is erased; a block is erased again, and gets the table.
const formatted = api.MinBlocks + 2

// chips: a small array, for which this comes.
func chips(t *testing.T, bad [][2]int, events ...nand.Event) *nand.Array {
	t.Helper()
	a, e := nand.New(small, bad, events...)
	if e != api.OK {
		t.Fatal("New:", e)
	}
	return a
}

// made: a formatted chip of an array.
func made(t *testing.T, a *nand.Array, chip int) *vol.Vol {
	t.Helper()
	v, e := vol.Format(a, chip)
	if e != api.OK || v == nil || v.Chip() != chip {
		t.Fatal("Format:", e, v.Chip())
	}
	return v
}

// opened: a chip of an array, as it was left.
func opened(t *testing.T, a *nand.Array, chip int) *vol.Vol {
	t.Helper()
	v, e := vol.Open(a, chip)
	if e != api.OK || v == nil || v.Chip() != chip {
		t.Fatal("Open:", e, v.Chip())
	}
	return v
}

// page: a page's bytes, and those beside it, that hang on a number.
func page(seed int) (data, oob []byte) {
	x := uint64(seed)*2654435761 + 1
	row := make([]byte, small.Size+api.Oob)
	for i := range row {
		x = x*6364136223846793005 + 1442695040888963407
		row[i] = byte(x >> 40)
	}
	return row[:small.Size], row[small.Size:]
}

// put programs a page with bytes that hang on a number.
func put(v *vol.Vol, b, p, seed int) api.Errno {
	data, oob := page(seed)
	return v.Program(b, p, data, oob)
}

// has: does a page hold the bytes that hang on a number? Below 0: it is erased.
func has(t *testing.T, v *vol.Vol, b, p, seed int) {
	t.Helper()
	wantData, wantOob := page(seed)
	if seed < 0 {
		wantData, wantOob = bytes.Repeat([]byte{255}, small.Size), bytes.Repeat([]byte{255}, api.Oob)
	}
	data, oob, e := v.Read(b, p)
	if e != api.OK || !bytes.Equal(data, wantData) || !bytes.Equal(oob, wantOob) {
		t.Errorf("page %d of block %d: %d, and other bytes than those of %d", p, b, e, seed)
	}
}

// same: are two tables one?
func same(a, b remap.Table) bool {
	return a.Seq == b.Seq && slices.Equal(a.Place, b.Place) && slices.Equal(a.Spare, b.Spare) && a.Tables == b.Tables
}

// upTo: the numbers from one on, so many.
func upTo(from, n int) []int {
	var l []int
	for i := range n {
		l = append(l, from+i)
	}
	return l
}

// stands: does a block of a chip begin with this table?
func stands(a *nand.Array, chip, b int, want remap.Table) bool {
	data, oob, e := a.Copy().Read(chip, b, 0)
	if e != api.OK {
		return false
	}
	t, e := remap.Join([]remap.Page{{Data: data, Oob: oob}}, a.Geo())
	return e == api.OK && same(t, want)
}

// P7.1: a new volume: the first two blocks hold tables, the next ones are the virtual ones, the rest is in reserve; all are erased; its table stands in the second block, since its number is 1.
func TestFormat(t *testing.T) {
	for _, g := range []api.Geo{small, {Chips: 4, Blocks: 17, Pages: 5, Size: 320}, {Chips: api.MaxChips, Blocks: api.MaxBlocks, Pages: api.MaxPages, Size: api.MaxSize}} {
		for _, chip := range []int{0, 1, g.Chips} {
			a, _ := nand.New(g, nil)
			v := made(t, a, chip)
			want := remap.Table{Seq: 1, Tables: [2]int{0, 1}, Place: upTo(2, g.Virtual()), Spare: upTo(2+g.Virtual(), 3)}
			if !same(v.Table(), want) {
				t.Error(g, chip, v.Table())
			}
			erases := slices.Repeat([]int{1}, g.Blocks)
			erases[1] = 2
			if !slices.Equal(a.Erases(chip), erases) || a.Ops() != g.Blocks+2 {
				t.Error(g, chip, a.Erases(chip), a.Ops())
			}
			if !stands(a, chip, 1, want) || stands(a, chip, 0, want) {
				t.Error(g, chip, "the table isn't saved")
			}
			if other := (chip + 1) % (g.Chips + 1); slices.Max(a.Erases(other)) != 0 {
				t.Error(g, chip, "another chip is touched")
			}
			for _, b := range []int{0, g.Virtual() - 1} {
				for p := range g.Pages {
					if data, oob, e := v.Read(b, p); e != api.OK || !record.Blank(data, oob) || len(data) != g.Size || len(oob) != 64 {
						t.Error(g, chip, b, p, e)
					}
				}
			}
		}
	}
}

// P7.1: blocks that fail are never used; just as many as leave enough, and one more.
func TestFormatWithBadBlocks(t *testing.T) {
	for _, bad := range [][]int{{0}, {1}, {15}, {0, 1}, {2, 3}, {0, 15}, {0, 1, 2}, {13, 14, 15}, {1, 7, 15}, {3, 4, 5}} {
		var l [][2]int
		for _, b := range bad {
			l = append(l, [2]int{2, b})
		}
		good := slices.DeleteFunc(upTo(0, 16), func(b int) bool { return slices.Contains(bad, b) })
		want := remap.Table{Seq: 1, Tables: [2]int{good[0], good[1]}, Place: good[2:13], Spare: good[13:]}
		a := chips(t, append(l, [2]int{0, 0}, [2]int{1, 1}))
		v := made(t, a, 2)
		if !same(v.Table(), want) || !same(opened(t, a, 2).Table(), want) {
			t.Error(bad, v.Table(), "want", want)
		}
		for b := range small.Virtual() {
			for p := range small.Pages {
				if e := put(v, b, p, 10*b+p); e != api.OK {
					t.Error(bad, b, p, e)
				}
			}
		}
		for b := range small.Virtual() {
			for p := range small.Pages {
				has(t, v, b, p, 10*b+p)
			}
		}
	}
	for _, bad := range [][]int{{0, 1, 2, 3}, {12, 13, 14, 15}, {0, 5, 10, 15}, upTo(0, 5), upTo(0, 15), upTo(0, 16)} {
		var l [][2]int
		for _, b := range bad {
			l = append(l, [2]int{2, b})
		}
		a := chips(t, l)
		if v, e := vol.Format(a, 2); e != api.Fail || v != nil || a.Ops() != 16 {
			t.Error(bad, e, v != nil, a.Ops())
		}
		if v, e := vol.Open(a, 2); e != api.Form || v != nil {
			t.Error(bad, "opened:", e, v != nil)
		}
	}
}

// P7.1: what a chip held is gone behind Format, its tables too, wherever they stand; its number begins anew.
func TestFormatAgain(t *testing.T) {
	// Block 5 fails, and block 0, which is to hold the second table: block 14 does.
	a := chips(t, nil, nand.Event{Op: formatted + 2, Kind: nand.Fail}, nand.Event{Op: formatted + 8, Kind: nand.Fail})
	v := made(t, a, 1)
	for p := range 4 {
		if e := put(v, 3, p, p); e != api.OK {
			t.Fatal(p, e)
		}
	}
	if x := v.Table(); x.Seq != 2 || x.Tables != [2]int{14, 1} || x.Place[3] != 13 {
		t.Fatal("nothing failed:", x)
	}
	v = made(t, a, 1)
	want := remap.Table{Seq: 1, Tables: [2]int{1, 2}, Place: []int{3, 4, 6, 7, 8, 9, 10, 11, 12, 13, 14}, Spare: []int{15}}
	if !same(v.Table(), want) || !same(opened(t, a, 1).Table(), want) {
		t.Error(v.Table())
	}
	for b := range small.Virtual() {
		for p := range 4 {
			has(t, v, b, p, -1)
		}
	}
}

// P7.1: of all tables with which blocks begin the one with the greatest number is opened, wherever it stands.
func TestOpenTheGreatest(t *testing.T) {
	for _, c := range []struct {
		seqs map[int]uint32 // of blocks
		want int
	}{
		{map[int]uint32{0: 0}, 0},
		{map[int]uint32{15: 3}, 15},
		{map[int]uint32{0: 6, 1: 7}, 1},
		{map[int]uint32{0: 8, 1: 7}, 0},
		{map[int]uint32{0: 6, 1: 7, 5: 8, 6: 5}, 5},
		{map[int]uint32{0: 1 << 31, 1: 1<<31 - 1}, 0},
		{map[int]uint32{3: math.MaxUint32, 4: 0, 9: 1}, 3},
	} {
		a := chips(t, nil)
		tables := map[int]remap.Table{}
		for b, seq := range c.seqs {
			x := remap.Table{Seq: seq, Tables: [2]int{b, (b + 1) % 16}, Place: []int{}, Spare: []int{}}
			for i := range 14 {
				if next := (b + 2 + i) % 16; i < 11 {
					x.Place = append(x.Place, next)
				} else {
					x.Spare = append(x.Spare, next)
				}
			}
			tables[b] = x
			write(t, a, 1, b, x, 1)
		}
		if v := opened(t, a, 1); !same(v.Table(), tables[c.want]) {
			t.Error(c.seqs, v.Table())
		}
		if v, e := vol.Open(a, 0); e != api.Form || v != nil {
			t.Error("another chip:", e, v != nil)
		}
	}
}

// write programs a table into a block, in so many pages.
func write(t *testing.T, a *nand.Array, chip, b int, x remap.Table, many int) {
	t.Helper()
	l, e := x.Pages(a.Geo())
	if e != api.OK {
		t.Fatal(e)
	}
	for p := range many {
		data := make([]byte, small.Size)
		if p == 0 {
			copy(data, l[0].Data)
		}
		h := record.Header{Kind: record.Table, Epoch: x.Seq, Index: uint16(p), Count: uint16(many)}
		if e := a.Program(chip, b, p, data, record.Seal(h, data, nil)); e != api.OK {
			t.Fatal(e)
		}
	}
}

// P7.1: a table of several pages is opened; what doesn't begin with a whole one isn't.
func TestOpenSeveralPages(t *testing.T) {
	x := remap.Table{Seq: 5, Tables: [2]int{3, 1}, Place: upTo(4, 11), Spare: []int{0, 2}}
	y := x
	y.Seq = 4
	for many := 1; many <= 4; many++ {
		a := chips(t, nil)
		write(t, a, 0, 1, y, 1)
		write(t, a, 0, 3, x, many)
		if v := opened(t, a, 0); !same(v.Table(), x) {
			t.Error(many, v.Table())
		}
	}
	for part := 1; part <= 3; part++ {
		a := chips(t, nil)
		write(t, a, 0, 1, y, 1)
		write(t, a, 1, 3, x, 4)
		for p := range part {
			data, oob, _ := a.Read(1, 3, p)
			a.Program(0, 3, p, data, oob)
		}
		if v := opened(t, a, 0); !same(v.Table(), y) {
			t.Error(part, "of four pages are opened:", v.Table())
		}
	}
}

// P7.1: there is no table: Form.
func TestOpenNone(t *testing.T) {
	x := remap.Table{Seq: 5, Tables: [2]int{0, 1}, Place: upTo(2, 11), Spare: []int{14}}
	pages, _ := x.Pages(small)
	data, oob := pages[0].Data, pages[0].Oob
	wide := api.Geo{Chips: 3, Blocks: 17, Pages: 4, Size: 256}
	other, _ := remap.Table{Seq: 5, Tables: [2]int{0, 1}, Place: upTo(2, 12)}.Pages(wide)
	turned := slices.Clone(oob)
	turned[40] ^= 1
	for what, rows := range map[string][][2][]byte{
		"erased":                {},
		"other pages":           {{data, bytes.Repeat([]byte{255}, 64)}},
		"noughts":               {{make([]byte, 256), make([]byte, 64)}},
		"not sealed":            {{data, turned}},
		"of another kind":       {{data, record.Seal(record.Header{Kind: record.Data, Epoch: 5, Count: 1}, data, nil)}},
		"of another shape":      {{other[0].Data, other[0].Oob}},
		"behind the first page": {{make([]byte, 256), make([]byte, 64)}, {data, oob}},
	} {
		a := chips(t, nil)
		for p, x := range rows {
			for _, b := range []int{0, 7, 15} {
				if e := a.Program(0, b, p, x[0], x[1]); e != api.OK {
					t.Fatal(e)
				}
			}
		}
		if v, e := vol.Open(a, 0); e != api.Form || v != nil {
			t.Error(what, e, v != nil)
		}
	}
}

// P7.1: Open reads as many pages of each block as its table has, at most four of others, and changes nothing.
func TestOpenReads(t *testing.T) {
	a := chips(t, nil)
	made(t, a, 1)
	was, ops := a.Copy(), a.Ops()
	opened(t, a, 1)
	if n := a.Ops() - ops; n < 16 || n > 15*4+1 {
		t.Error(n, "operations")
	}
	if !nand.Same(a, was) {
		t.Error("something is changed")
	}
}

// P7.1: the power goes, or the chip dies, at each operation of Open: that is told, and nothing is changed.
func TestOpenCutOff(t *testing.T) {
	whole := chips(t, nil)
	x := made(t, whole, 1).Table()
	n := whole.Copy()
	opened(t, n, 1)
	for op := 1; op <= n.Ops(); op++ {
		for _, kind := range []int{nand.Fail, nand.Crash, nand.Die} {
			a := whole.Copy(nand.Event{Op: op, Kind: kind, Chip: 1, Left: []byte{1}})
			v, e := vol.Open(a, 1)
			if kind == nand.Fail {
				if e != api.OK || !same(v.Table(), x) || !nand.Same(a, whole) {
					t.Error(op, "a Fail:", e)
				}
				continue
			}
			want := api.Crash
			if kind == nand.Die {
				want = api.Dead
			}
			if e != want || v != nil || a.Ops() != op {
				t.Error(op, kind, e, v != nil, a.Ops())
			}
			if a.Boot(); kind == nand.Crash && (!nand.Same(a, whole) || !same(opened(t, a, 1).Table(), x)) {
				t.Error(op, "something is changed")
			}
		}
	}
}

// P7.1: a block that fails at any operation of Format is never used, or, if it is to hold the table, replaced.
func TestFormatFails(t *testing.T) {
	for op := 1; op <= formatted; op++ {
		a := chips(t, nil, nand.Event{Op: op, Kind: nand.Fail, Left: []byte{9}})
		v := made(t, a, 0)
		good := upTo(0, 16)
		want := remap.Table{Seq: 1, Tables: [2]int{0, 13}, Place: upTo(2, 11), Spare: []int{14, 15}}
		if op <= 16 {
			good = slices.Delete(good, op-1, op)
			want = remap.Table{Seq: 1, Tables: [2]int{good[0], good[1]}, Place: good[2:13], Spare: good[13:]}
		}
		if !same(v.Table(), want) || !same(opened(t, a, 0).Table(), want) {
			t.Error(op, v.Table(), "want", want)
		}
	}
	// The table's block fails, and each in reserve that takes its place.
	for _, at := range [][]int{{17, 18, 19, 20}, {18, 20, 22, 24}, {17, 19, 20, 22}} {
		for n := 1; n <= 4; n++ {
			var l []nand.Event
			for _, op := range at[:n] {
				l = append(l, nand.Event{Op: op, Kind: nand.Fail})
			}
			a := chips(t, nil, l...)
			v, e := vol.Format(a, 0)
			if n == 4 {
				if e != api.Fail || v != nil {
					t.Error(at, "without a reserve:", e, v != nil)
				}
				continue
			}
			if e != api.OK || v.Table().Tables != [2]int{0, 12 + n} || !slices.Equal(v.Table().Spare, upTo(13+n, 3-n)) || !same(opened(t, a, 0).Table(), v.Table()) {
				t.Error(at, n, e, v.Table())
			}
		}
	}
}

// P7.1: the power goes, or the chip dies, at each operation of Format: that is told; with the power back it can be made again.
func TestFormatCutOff(t *testing.T) {
	for op := 1; op <= formatted; op++ {
		for _, left := range [][]byte{nil, {255}, {1, 2, 3}} {
			a := chips(t, [][2]int{{2, 1}}, nand.Event{Op: op, Kind: nand.Crash, Left: left})
			v, e := vol.Format(a, 0)
			if e != api.Crash || v != nil || a.Ops() != op {
				t.Error(op, e, v != nil, a.Ops())
			}
			if v, e := vol.Format(a, 0); e != api.Crash || v != nil {
				t.Error(op, "without power:", e, v != nil)
			}
			a.Boot()
			if v, e := vol.Open(a, 0); e != api.Form || v != nil {
				t.Error(op, "half of it is opened:", e, v != nil)
			}
			if x := made(t, a, 0).Table(); x.Seq != 1 || len(x.Spare) != 3 || !same(opened(t, a, 0).Table(), x) {
				t.Error(op, x)
			}
		}
		a := chips(t, nil, nand.Event{Op: op, Kind: nand.Die, Chip: 0})
		if v, e := vol.Format(a, 0); e != api.Dead || v != nil || a.Ops() != op {
			t.Error(op, "dead:", e, v != nil, a.Ops())
		}
		made(t, a, 1)
	}
}

// P1 (rules 2, 6), P7.1: nil arrays, arrays that nobody made, chips that aren't there.
func TestWrongArrays(t *testing.T) {
	for what, by := range map[string]func(*nand.Array, int) (*vol.Vol, api.Errno){"Format": vol.Format, "Open": vol.Open} {
		for _, chip := range []int{math.MinInt, -1, 0, 3, 4, 5, math.MaxInt} {
			if v, e := by(nil, chip); e != api.Nil || v != nil {
				t.Error(what, "nil", chip, e, v != nil)
			}
			if v, e := by(&nand.Array{}, chip); e != api.Range || v != nil {
				t.Error(what, "nobody's", chip, e, v != nil)
			}
			if chip == 0 || chip == 3 {
				continue
			}
			a := chips(t, nil)
			if v, e := by(a, chip); e != api.Range || v != nil || a.Ops() != 0 {
				t.Error(what, chip, e, v != nil, a.Ops())
			}
			off := chips(t, nil, nand.Event{Op: 1, Kind: nand.Crash})
			off.Read(0, 0, 0)
			if v, e := by(off, chip); e != api.Crash || v != nil {
				t.Error(what, "without power", chip, e, v != nil)
			}
		}
		a := chips(t, nil)
		a.Kill(2)
		if v, e := by(a, 2); e != api.Dead || v != nil || a.Ops() != 1 {
			t.Error(what, "dead", e, v != nil, a.Ops())
		}
	}
}

// P1 (rules 2, 6): a nil volume: Nil, nothing; one that nobody made has no virtual blocks.
func TestWrongVolumes(t *testing.T) {
	data, oob := page(1)
	for _, c := range []struct {
		v    *vol.Vol
		want api.Errno
	}{{nil, api.Nil}, {&vol.Vol{}, api.Range}} {
		for _, b := range []int{math.MinInt, -1, 0, 1, math.MaxInt} {
			for _, p := range []int{-1, 0, math.MaxInt} {
				if data, oob, e := c.v.Read(b, p); e != c.want || data != nil || oob != nil {
					t.Error(c.want, "Read", b, p, e)
				}
				if e := c.v.Program(b, p, data, oob); e != c.want {
					t.Error(c.want, "Program", b, p, e)
				}
			}
			if e := c.v.Erase(b); e != c.want {
				t.Error(c.want, "Erase", b, e)
			}
		}
		if c.v.Chip() != 0 || !same(c.v.Table(), remap.Table{}) {
			t.Error(c.want, c.v.Chip(), c.v.Table())
		}
	}
}

// P7.1: a virtual block that isn't there is Range, ahead of all else, and no operation; a page that isn't there is layer 4's Range.
func TestRange(t *testing.T) {
	a := chips(t, nil)
	v := made(t, a, 3)
	data, oob := page(1)
	far := []int{math.MinInt, -1 << 32, -1, 11, 12, 15, 16, 1 << 32, math.MaxInt}
	all := func(want api.Errno) {
		t.Helper()
		ops := a.Ops()
		for _, b := range far {
			for _, p := range []int{-1, 0, 3, 4} {
				if data, oob, e := v.Read(b, p); e != want || data != nil || oob != nil {
					t.Error("Read", b, p, e)
				}
				if e := v.Program(b, p, data, oob); e != want {
					t.Error("Program", b, p, e)
				}
				if e := v.Program(b, p, nil, nil); e != want {
					t.Error("Program", b, p, e)
				}
			}
			if e := v.Erase(b); e != want {
				t.Error("Erase", b, e)
			}
		}
		if a.Ops() != ops {
			t.Error("operations:", a.Ops()-ops)
		}
	}
	all(api.Range)
	for _, p := range []int{math.MinInt, -1, 4, 1 << 32, math.MaxInt} {
		if data, oob, e := v.Read(10, p); e != api.Range || data != nil || oob != nil {
			t.Error("Read of page", p, e)
		}
		if e := v.Program(10, p, data, oob); e != api.Range {
			t.Error("Program of page", p, e)
		}
	}
	for _, n := range []int{0, 255, 257} {
		if e := v.Program(10, 0, make([]byte, n), oob); e != api.Range {
			t.Error(n, "bytes:", e)
		}
	}
	for _, n := range []int{0, 63, 65} {
		if e := v.Program(10, 0, data, make([]byte, n)); e != api.Range {
			t.Error(n, "bytes beside:", e)
		}
	}
	a.Kill(3)
	all(api.Range)
	if data, oob, e := v.Read(0, 0); e != api.Dead || data != nil || oob != nil {
		t.Error("Read of a dead chip:", e)
	}
	if e := v.Program(0, 0, data, oob); e != api.Dead {
		t.Error("Program of a dead chip:", e)
	}
	if e := v.Erase(0); e != api.Dead {
		t.Error("Erase of a dead chip:", e)
	}
}

// P7.1: pages are programmed one behind the other; layer 4's errors come through.
func TestOrder(t *testing.T) {
	a := chips(t, nil)
	v := made(t, a, 0)
	for i, c := range []struct {
		p    int
		want api.Errno
	}{{1, api.Order}, {3, api.Order}, {0, api.OK}, {0, api.Order}, {2, api.Order}, {1, api.OK}, {2, api.OK}, {3, api.OK}, {3, api.Order}, {0, api.Order}} {
		if e := put(v, 4, c.p, c.p); e != c.want {
			t.Error(i, c.p, e)
		}
	}
	for p := range 4 {
		has(t, v, 4, p, p)
		has(t, v, 3, p, -1)
		has(t, v, 5, p, -1)
	}
	ops := a.Ops()
	if e := v.Erase(4); e != api.OK || a.Ops() != ops+1 || v.Table().Seq != 1 {
		t.Error("Erase:", e, a.Ops()-ops, v.Table())
	}
	for p := range 4 {
		has(t, v, 4, p, -1)
	}
	if e := put(v, 4, 0, 9); e != api.OK {
		t.Error("behind Erase:", e)
	}
	has(t, v, 4, 0, 9)
}

// P1 (rule 4): a table that is answered is new memory; bytes that are handed in aren't changed, and not kept.
func TestHandedIn(t *testing.T) {
	a := chips(t, nil, nand.Event{Op: formatted + 2, Kind: nand.Fail})
	v := made(t, a, 0)
	x := v.Table()
	clear(x.Place[:cap(x.Place)])
	clear(x.Spare[:cap(x.Spare)])
	if !same(v.Table(), remap.Table{Seq: 1, Tables: [2]int{0, 1}, Place: upTo(2, 11), Spare: upTo(13, 3)}) {
		t.Error("the table is shared:", v.Table())
	}
	was := v.Table()
	for p := range 3 {
		data, oob := page(p)
		if e := v.Program(0, p, data, oob); e != api.OK {
			t.Fatal(e)
		}
		wantData, wantOob := page(p)
		if !bytes.Equal(data, wantData) || !bytes.Equal(oob, wantOob) {
			t.Error(p, "is changed")
		}
		clear(data)
		clear(oob)
	}
	for p := range 3 {
		data, oob, _ := v.Read(0, p)
		clear(data)
		clear(oob)
		has(t, v, 0, p, p)
	}
	if !same(was, remap.Table{Seq: 1, Tables: [2]int{0, 1}, Place: upTo(2, 11), Spare: upTo(13, 3)}) || v.Table().Seq != 2 {
		t.Error("a table that was answered is changed:", was)
	}
}

// Two volumes of one array, each on its own chip, change nothing of one another.
func TestTwoVolumes(t *testing.T) {
	a := chips(t, nil, nand.Event{Op: 2*formatted + 3, Kind: nand.Fail})
	v, w := made(t, a, 0), made(t, a, 3)
	for p := range 4 {
		if put(v, 2, p, p) != api.OK || put(w, 2, p, 100+p) != api.OK {
			t.Fatal(p)
		}
	}
	for p := range 4 {
		has(t, v, 2, p, p)
		has(t, w, 2, p, 100+p)
	}
	if v.Table().Seq != 2 || w.Table().Seq != 1 {
		t.Error(v.Table(), w.Table())
	}
}

package vol_test

import (
	"slices"
	"strconv"
	"testing"

	"gabion/api"
	"gabion/nand"
	"gabion/remap"
	"gabion/vol"
)

// fails: a Fail at each of these operations behind Format and n others.
func fails(n int, at ...int) []nand.Event {
	var l []nand.Event
	for _, op := range at {
		l = append(l, nand.Event{Op: formatted + n + op, Kind: nand.Fail, Left: []byte{9, 8}})
	}
	return l
}

// begun: a volume of chip 0 whose virtual block 3, which is block 5, has n pages; for the operations behind these this comes.
func begun(t *testing.T, n int, at ...int) (*nand.Array, *vol.Vol) {
	t.Helper()
	a := chips(t, nil, fails(n, at...)...)
	v := made(t, a, 0)
	for p := range n {
		if e := put(v, 3, p, p); e != api.OK {
			t.Fatal(p, e)
		}
	}
	return a, v
}

// with: the table that Format makes, but for these.
func with(seq uint32, place int, tables [2]int, spare ...int) remap.Table {
	x := remap.Table{Seq: seq, Tables: tables, Place: upTo(2, 11), Spare: spare}
	x.Place[3] = place
	return x
}

// is: is a volume's table this one, here and when it is opened again? Has its block 3 these pages, and are all behind them erased?
func is(t *testing.T, what string, a *nand.Array, v *vol.Vol, want remap.Table, pages int) {
	t.Helper()
	o := opened(t, a.Copy(), v.Chip())
	if !same(v.Table(), want) || !same(o.Table(), want) {
		t.Error(what, "is", v.Table(), "opened", o.Table(), "want", want)
	}
	for p := range small.Pages {
		seed := p
		if p >= pages {
			seed = -1
		}
		has(t, v, 3, p, seed)
		has(t, o, 3, p, seed)
	}
}

// P7.1, P7.2: a block that fails at its first, a middle or its last page is replaced: the first one in reserve is erased, gets the pages ahead, and this one, and the table is saved.
func TestProgramReplaces(t *testing.T) {
	for p := range 4 {
		a, v := begun(t, p, 1)
		ops := a.Ops()
		if e := put(v, 3, p, p); e != api.OK || a.Ops() != ops+1+1+2*p+1+2 {
			t.Error(p, e, a.Ops()-ops)
		}
		erases := slices.Repeat([]int{1}, 16)
		erases[1], erases[13], erases[0] = 2, 2, 2
		if !slices.Equal(a.Erases(0), erases) {
			t.Error(p, a.Erases(0))
		}
		want := with(2, 13, [2]int{0, 1}, 14, 15)
		if !stands(a, 0, 0, want) || !stands(a, 0, 1, with(1, 5, [2]int{0, 1}, 13, 14, 15)) {
			t.Error(p, "the tables don't stand where they must")
		}
		is(t, strconv.Itoa(p), a, v, want, p+1)
		for q := p + 1; q < 4; q++ {
			if e := put(v, 3, q, q); e != api.OK {
				t.Error(p, q, e)
			}
		}
		is(t, "behind it", a, v, want, 4)
		if e := put(v, 3, 3, 1); e != api.Order {
			t.Error(p, "a page that is there:", e)
		}
	}
}

// P7.1: what isn't the next page of a block, or no page, isn't what fails: layer 4 tells it, and nothing is replaced.
func TestNothingToReplace(t *testing.T) {
	for _, p := range []int{-1, 0, 1, 3, 4} {
		a, v := begun(t, 2, 1)
		want := api.Order
		if p < 0 || p > 3 {
			want = api.Range
		}
		if e := put(v, 3, p, 9); e != want {
			t.Error(p, e)
		}
		is(t, "behind it", a, v, with(1, 5, [2]int{0, 1}, 13, 14, 15), 2)
	}
	// Nor does a Fail come to a page that is read.
	a, v := begun(t, 2, 1, 2)
	has(t, v, 3, 0, 0)
	has(t, v, 3, 2, -1)
	is(t, "behind it", a, v, with(1, 5, [2]int{0, 1}, 13, 14, 15), 2)
}

// P7.1, P7.2: a second block that fails while it takes the first one's place, when it is erased, at any page that it gets, or at the page itself, is used no longer; and a third one.
func TestProgramReplacesTwice(t *testing.T) {
	for p := range 4 {
		var at []int // operations at which the second block may fail
		for op := 2; op <= 3+2*p; op++ {
			if op == 2 || op == 3+2*p || op%2 == 0 {
				at = append(at, op)
			}
		}
		for _, op := range at {
			a, v := begun(t, p, 1, op)
			if e := put(v, 3, p, p); e != api.OK {
				t.Error(p, op, e)
			}
			is(t, "a second one", a, v, with(2, 14, [2]int{0, 1}, 15), p+1)
			for _, third := range at {
				a, v := begun(t, p, 1, op, op+third-1)
				if e := put(v, 3, p, p); e != api.OK {
					t.Error(p, op, third, e)
				}
				is(t, "a third one", a, v, with(2, 15, [2]int{0, 1}), p+1)
			}
		}
	}
}

// P7.1: a reserve that ends while a page is programmed: Fail. The pages ahead are there; what failed is used no longer; all other blocks go on.
func TestProgramWithoutReserve(t *testing.T) {
	for p := range 4 {
		a, v := begun(t, p, 1, 2, 3, 4)
		if e := put(v, 3, p, p); e != api.Fail {
			t.Error(p, e)
		}
		if x := v.Table(); !same(x, with(1, 5, [2]int{0, 1})) {
			t.Error(p, x)
		}
		ops := a.Ops()
		if e := put(v, 3, p, p); e != api.Fail || a.Ops() != ops+1 {
			t.Error(p, "again:", e, a.Ops()-ops)
		}
		for _, w := range []*vol.Vol{v, opened(t, a, 0)} {
			for q := range p {
				has(t, w, 3, q, q)
			}
			if e := put(w, 3, p, p); e != api.Fail {
				t.Error(p, "without a reserve:", e)
			}
			if e := w.Erase(3); e != api.Fail {
				t.Error(p, "erased without a reserve:", e)
			}
			if e := w.Erase(2); e != api.OK {
				t.Error(p, "another block is erased:", e)
			}
			if e := put(w, 2, 0, 50); e != api.OK {
				t.Error(p, "another block:", e)
			}
			has(t, w, 2, 0, 50)
		}
	}
}

// P7.1, P7.2: a reserve that ends by and by: three blocks that fail are replaced, the fourth isn't.
func TestReserveEnds(t *testing.T) {
	for _, erased := range []bool{false, true} {
		a := chips(t, nil)
		v := made(t, a, 0)
		for n := range 4 {
			for p := range n {
				if e := put(v, n, p, 10*n+p); e != api.OK {
					t.Fatal(n, p, e)
				}
			}
			// The same chip, opened again, whose next operation fails.
			b := a.Copy(nand.Event{Op: 65, Kind: nand.Fail})
			w := opened(t, b, 0)
			for b.Ops() < 64 {
				b.Read(0, 0, 0)
			}
			if b.Ops() != 64 {
				t.Fatal("Open takes too many operations:", b.Ops())
			}
			want := api.OK
			if n == 3 {
				want = api.Fail
			}
			var e api.Errno
			if erased {
				e = w.Erase(n)
			} else {
				e = put(w, n, n, 10*n+n)
			}
			if e != want {
				t.Error(erased, n, e)
			}
			a, v = b, w
			if x := v.Table(); len(x.Spare) != max(2-n, 0) || x.Seq != uint32(min(n+2, 4)) {
				t.Error(erased, n, x)
			}
		}
		for n := range 4 {
			for p := range n {
				if erased && n == 3 {
					continue
				}
				if erased {
					has(t, v, n, p, -1)
				} else {
					has(t, v, n, p, 10*n+p)
				}
			}
		}
	}
}

// P7.1: a virtual block that fails when it is erased is replaced by the first in reserve, as long as that fails, too; then the table is saved.
func TestEraseReplaces(t *testing.T) {
	for n := 1; n <= 4; n++ {
		a, v := begun(t, 3, upTo(1, n)...)
		ops := a.Ops()
		e := v.Erase(3)
		if n == 4 {
			if e != api.Fail || a.Ops() != ops+4 || !same(opened(t, a, 0).Table(), with(1, 5, [2]int{0, 1}, 13, 14, 15)) {
				t.Error("without a reserve:", e, a.Ops()-ops)
			}
			if e := v.Erase(3); e != api.Fail {
				t.Error("again:", e)
			}
			if e := put(v, 3, 0, 0); e != api.Fail {
				t.Error("programmed:", e)
			}
			continue
		}
		if e != api.OK || a.Ops() != ops+1+n+2 {
			t.Error(n, e, a.Ops()-ops)
		}
		want := with(2, 12+n, [2]int{0, 1}, upTo(13+n, 3-n)...)
		is(t, "erased", a, v, want, 0)
		for p := range 4 {
			if e := put(v, 3, p, p); e != api.OK {
				t.Error(n, p, e)
			}
		}
		is(t, "programmed", a, v, want, 4)
	}
}

// P7.1: the block for the table, the first of both if the number is even, else the second, is replaced, too, as long as it fails.
func TestSaveReplaces(t *testing.T) {
	// Behind the failure of a block without pages these operations come: it fails, another one is erased, programmed; a table's block is erased, programmed.
	for _, c := range []struct {
		at    []int
		table [2]int
		spare []int
	}{
		{[]int{1}, [2]int{0, 1}, []int{14, 15}},
		{[]int{1, 4}, [2]int{14, 1}, []int{15}},
		{[]int{1, 5}, [2]int{14, 1}, []int{15}},
		{[]int{1, 4, 5}, [2]int{15, 1}, nil},
		{[]int{1, 4, 6}, [2]int{15, 1}, nil},
		{[]int{1, 5, 6}, [2]int{15, 1}, nil},
		{[]int{1, 5, 7}, [2]int{15, 1}, nil},
	} {
		a, v := begun(t, 0, c.at...)
		if e := put(v, 3, 0, 0); e != api.OK {
			t.Error(c.at, e)
		}
		want := with(2, 13, c.table, c.spare...)
		is(t, "even", a, v, want, 1)
		if !stands(a, 0, c.table[0], want) {
			t.Error(c.at, "the table doesn't stand where it must")
		}
	}
	// The next number is odd: block 7 fails, then the second block for tables.
	for _, at := range [][]int{{1, 6, 9}, {1, 6, 10}} {
		a, v := begun(t, 0, at...)
		if put(v, 3, 0, 0) != api.OK || put(v, 5, 0, 50) != api.OK {
			t.Fatal(at)
		}
		want := with(3, 13, [2]int{0, 15})
		want.Place[5] = 14
		is(t, "odd", a, v, want, 1)
		has(t, v, 5, 0, 50)
		if !stands(a, 0, 15, want) {
			t.Error(at, "the table doesn't stand where it must")
		}
	}
	// The same when a block is erased.
	for _, at := range [][]int{{1, 3}, {1, 4}} {
		a, v := begun(t, 2, at...)
		if e := v.Erase(3); e != api.OK {
			t.Error(at, e)
		}
		is(t, "erased", a, v, with(2, 13, [2]int{14, 1}, 15), 0)
	}
}

// P7.1, P7.3: a reserve that ends while the table is saved: Fail. What was told to be there is, here and when the chip is opened again; nothing is told that isn't.
func TestSaveWithoutReserve(t *testing.T) {
	for p := range 4 {
		n := 3 + 2*p // the table's block is erased at the operation behind
		for _, at := range [][]int{{1, n + 1, n + 2, n + 3}, {1, n + 2, n + 4, n + 6}, {1, n + 1, n + 3, n + 5}, {1, n + 2, n + 3, n + 5}} {
			a, v := begun(t, p, at...)
			if e := put(v, 3, p, p); e != api.Fail {
				t.Error(p, at, e)
			}
			for i := range 3 {
				o := opened(t, a, 0)
				if x := v.Table(); x.Seq != 1 || !slices.Equal(x.Place, upTo(2, 11)) || x.Tables != [2]int{0, 1} || !same(o.Table(), with(1, 5, [2]int{0, 1}, 13, 14, 15)) {
					t.Error(p, at, i, x, o.Table())
				}
				for q := range p {
					has(t, v, 3, q, q)
					has(t, o, 3, q, q)
				}
				if e := put(v, 3, p, p); e != api.Fail {
					t.Error(p, at, i, "again:", e)
				}
				if e := v.Erase(3); i == 1 && e != api.Fail {
					t.Error(p, at, i, "erased:", e)
				}
				if e := put(o, 1, i, 70+i); e != api.OK {
					t.Error(p, at, i, "another block:", e)
				}
			}
		}
	}
	// A block without pages is erased, and its table can't be saved: what is programmed then can't be told to be there.
	a, v := begun(t, 0, 1, 3, 4, 5)
	if e := v.Erase(3); e != api.Fail {
		t.Error("Erase:", e)
	}
	if e := put(v, 3, 0, 0); e != api.Fail {
		t.Error("Program:", e)
	}
	if x := opened(t, a, 0).Table(); !same(x, with(1, 5, [2]int{0, 1}, 13, 14, 15)) {
		t.Error(x)
	}
}

// P7.1: the chip dies at each operation of what is replaced: Dead, from then on.
func TestDiesWhileReplaced(t *testing.T) {
	for op := 2; op <= 9; op++ {
		for _, erased := range []bool{false, true} {
			events := append(fails(2, 1), nand.Event{Op: formatted + 2 + op, Kind: nand.Die, Chip: 0})
			a := chips(t, nil, events...)
			v := made(t, a, 0)
			put(v, 3, 0, 0)
			put(v, 3, 1, 1)
			var e api.Errno
			last := 9
			if erased {
				e, last = v.Erase(3), 4
			} else {
				e = put(v, 3, 2, 2)
			}
			want := api.Dead
			if op > last {
				want = api.OK
			}
			if e != want {
				t.Error(op, erased, e)
			}
			if want == api.OK {
				continue
			}
			if _, _, e := v.Read(3, 0); e != api.Dead || a.Ops() != formatted+2+op+1 {
				t.Error(op, erased, "Read:", e, a.Ops())
			}
			if w, e := vol.Open(a, 0); e != api.Dead || w != nil {
				t.Error(op, erased, "Open:", e)
			}
		}
	}
}

// P7.2: the pages that a block gets are what was read, also those that hold what a crash left, or nothing.
func TestProgramMovesAnyPages(t *testing.T) {
	a := chips(t, nil, nand.Event{Op: formatted + 2, Kind: nand.Crash, Left: []byte{7}}, nand.Event{Op: formatted + 3, Kind: nand.Fail})
	v := made(t, a, 0)
	put(v, 3, 0, 0)
	if e := put(v, 3, 1, 1); e != api.Crash {
		t.Fatal(e)
	}
	a.Boot()
	if e := put(v, 3, 2, 2); e != api.OK {
		t.Error(e)
	}
	has(t, v, 3, 0, 0)
	has(t, v, 3, 2, 2)
	data, oob, e := v.Read(3, 1)
	if e != api.OK || slices.Min(data) != 7 || slices.Max(data) != 7 || slices.Min(oob) != 7 || v.Table().Place[3] != 13 {
		t.Error(e, data, oob, v.Table())
	}
}

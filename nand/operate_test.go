package nand_test

import (
	"bytes"
	"slices"
	"testing"

	"gabion/api"
	"gabion/nand"
)

// P4.1: pages are programmed one behind the other, once.
func TestOrder(t *testing.T) {
	a := chips(t)
	for i, c := range []struct {
		b, p int
		want api.Errno
	}{
		{3, 1, api.Order}, // the document's example
		{3, 3, api.Order},
		{3, 4, api.Range},
		{3, -1, api.Range},
		{3, 0, api.OK},
		{3, 0, api.Order},
		{3, 2, api.Order},
		{3, 1, api.OK},
		{3, 2, api.OK},
		{3, 1, api.Order},
		{3, 3, api.OK},
		{3, 3, api.Order},
		{3, 0, api.Order},
		{3, 4, api.Range},
		{4, 1, api.Order},
		{4, 0, api.OK},
	} {
		if e := put(a, 1, c.b, c.p, i); e != c.want || a.Ops() != i+1 {
			t.Error(i, c, e, a.Ops())
		}
	}
}

// P4.2: a page is read as it was programmed, till its block is erased; then it can be programmed again.
func TestReadWhatWasProgrammed(t *testing.T) {
	a := chips(t)
	for chip := range 4 {
		for _, b := range []int{0, 7, 15} {
			for p := range small.Pages {
				if e := put(a, chip, b, p, 1000*chip+10*b+p); e != api.OK {
					t.Fatal(chip, b, p, e)
				}
			}
		}
	}
	a.Erase(2, 7)
	for chip := range 4 {
		for _, b := range []int{0, 7, 15} {
			for p := range small.Pages {
				if chip == 2 && b == 7 {
					blank(t, a, chip, b, p)
					continue
				}
				data, oob := page(1000*chip + 10*b + p)
				has(t, a, chip, b, p, data, oob)
			}
		}
	}
	if e := put(a, 2, 7, 1, 5); e != api.Order {
		t.Error("the second page of an erased block:", e)
	}
	if e := put(a, 2, 7, 0, 6); e != api.OK {
		t.Error("the first page of an erased block:", e)
	}
	data, oob := page(6)
	has(t, a, 2, 7, 0, data, oob)
	blank(t, a, 2, 7, 1)
}

// P4.1: bytes of another length than a page's are Range, ahead of the block's own errors.
func TestLengths(t *testing.T) {
	a, _ := nand.New(small, [][2]int{{0, 1}})
	for i, c := range []struct{ data, oob int }{{255, 64}, {257, 64}, {0, 64}, {256, 63}, {256, 65}, {256, 0}, {0, 0}, {320, 0}, {64, 256}} {
		for _, b := range []int{0, 1} {
			for _, p := range []int{0, 1} {
				if e := a.Program(0, b, p, make([]byte, c.data), make([]byte, c.oob)); e != api.Range {
					t.Error(i, b, p, e)
				}
			}
		}
	}
	if e := a.Program(0, 0, 0, nil, nil); e != api.Range {
		t.Error(e)
	}
	blank(t, a, 0, 0, 0)
	if e := put(a, 0, 0, 0, 1); e != api.OK {
		t.Error(e)
	}
}

// P4.1: an operation on what isn't there, or without power, doesn't count; all others do, and with them comes what comes.
func TestCounted(t *testing.T) {
	a, _ := nand.New(small, [][2]int{{0, 1}}, nand.Event{Op: 9, Kind: nand.Crash})
	a.Kill(2)
	data, oob := page(1)
	read := func(chip, b, p int) func() api.Errno {
		return func() api.Errno { _, _, e := a.Read(chip, b, p); return e }
	}
	program := func(chip, b, p int) func() api.Errno {
		return func() api.Errno { return a.Program(chip, b, p, data, oob) }
	}
	erase := func(chip, b int) func() api.Errno { return func() api.Errno { return a.Erase(chip, b) } }
	for i, c := range []struct {
		do   func() api.Errno
		want api.Errno
		ops  int
	}{
		{read(4, 0, 0), api.Range, 0}, {read(-1, 0, 0), api.Range, 0}, {read(0, 16, 0), api.Range, 0}, {read(0, -1, 0), api.Range, 0},
		{program(4, 0, 0), api.Range, 0}, {program(0, 16, 0), api.Range, 0}, {program(2, -1, 0), api.Range, 0},
		{erase(-1, 0), api.Range, 0}, {erase(4, 0), api.Range, 0}, {erase(2, 16), api.Range, 0}, {erase(3, -1), api.Range, 0},
		{read(3, 15, 4), api.Range, 1}, {program(0, 0, 1), api.Order, 2}, {program(0, 0, 4), api.Range, 3}, {program(0, 1, 0), api.Fail, 4},
		{erase(0, 1), api.Fail, 5}, {read(2, 0, 0), api.Dead, 6}, {program(2, 0, 9), api.Dead, 7}, {read(0, 0, 0), api.OK, 8},
		{erase(0, 16), api.Range, 8}, {read(4, 0, 0), api.Range, 8},
		{erase(2, 0), api.Crash, 9}, {read(0, 0, 0), api.Crash, 9}, {program(0, 0, 0), api.Crash, 9}, {erase(0, 0), api.Crash, 9},
		{read(9, 9, 9), api.Crash, 9}, {program(-1, 0, 0), api.Crash, 9}, {erase(0, 99), api.Crash, 9},
	} {
		if e := c.do(); e != c.want || a.Ops() != c.ops {
			t.Error(i, e, a.Ops())
		}
	}
	if !a.Off() {
		t.Error("the power is there")
	}
	a.Boot()
	a.Boot()
	if e := a.Erase(0, 0); e != api.OK || a.Off() || a.Ops() != 10 {
		t.Error("behind Boot:", e, a.Off(), a.Ops())
	}
}

// P4.1: of several that come for one operation the first whose Kind is 1 to 3.
func TestTheFirstThatComes(t *testing.T) {
	for i, c := range []struct {
		kinds []int
		want  api.Errno
	}{
		{[]int{0, 4, -1, nand.Fail, nand.Crash}, api.Fail},
		{[]int{nand.Crash, nand.Fail, nand.Die}, api.Crash},
		{[]int{5, nand.Die, nand.Crash}, api.Dead},
		{[]int{0, 4, 1 << 40}, api.OK},
		{nil, api.OK},
	} {
		events := []nand.Event{{Op: 1, Kind: nand.Crash}, {Op: 0, Kind: nand.Crash}, {Op: -2, Kind: nand.Crash}, {Op: 3, Kind: nand.Crash}}
		events[0].Op = 4
		for _, kind := range c.kinds {
			events = append(events, nand.Event{Op: 2, Kind: kind, Chip: 1})
		}
		a := chips(t, events...)
		if e := put(a, 1, 0, 0, 1); e != api.OK {
			t.Error(i, "first:", e)
		}
		if e := put(a, 1, 0, 1, 1); e != c.want {
			t.Error(i, "second:", e)
		}
	}
	// One whose chip isn't there is the first all the same.
	a := chips(t, nand.Event{Op: 1, Kind: nand.Die, Chip: 4}, nand.Event{Op: 1, Kind: nand.Crash}, nand.Event{Op: 2, Kind: nand.Die, Chip: -1})
	for p := range 2 {
		if e := put(a, 0, 0, p, 1); e != api.OK {
			t.Error(p, e)
		}
	}
}

// P4.1: what is left are these bytes again and again, through the page and what stands beside it; noughts, if there are none.
func TestLeft(t *testing.T) {
	c := chance(3)
	for _, n := range []int{0, 1, 2, 3, 7, 100, 255, 256, 257, 300, 319, 320, 321, 400, 1000} {
		left := c.bytes(n)
		row := make([]byte, 320)
		for i := range row {
			if n > 0 {
				row[i] = left[i%n]
			}
		}
		for _, kind := range []int{nand.Fail, nand.Crash} {
			a := chips(t, nand.Event{Op: 2, Kind: kind, Left: left}, nand.Event{Op: 3, Kind: kind, Left: left})
			put(a, 0, 0, 0, 1)
			put(a, 0, 0, 1, 1)
			a.Boot()
			a.Erase(1, 1)
			a.Boot()
			data, oob := page(1)
			has(t, a, 0, 0, 0, data, oob)
			has(t, a, 0, 0, 1, row[:256], row[256:])
			blank(t, a, 0, 0, 2)
			for p := range 4 {
				has(t, a, 1, 1, p, row[:256], row[256:])
			}
			blank(t, a, 1, 0, 3)
		}
	}
}

// P4.1: a Crash at each operation, wherever: nothing but what stood next is touched, and all waits for the power.
func TestCrash(t *testing.T) {
	left := []byte{1, 2, 3}
	row := bytes.Repeat(left, 107)[:320]
	data, oob := page(1)
	begin := func() *nand.Array { // block 0 has two pages, block 1 is bad and has one, chip 2 is dead
		a := chips(t, nand.Event{Op: 4, Kind: nand.Fail, Left: []byte{5}}, nand.Event{Op: 5, Kind: nand.Crash, Left: left})
		put(a, 0, 0, 0, 1)
		put(a, 0, 0, 1, 2)
		a.Erase(0, 3)
		put(a, 0, 1, 0, 1)
		a.Kill(2)
		return a
	}
	for i, c := range []struct {
		do      func(a *nand.Array) api.Errno
		touched []place
	}{
		{func(a *nand.Array) api.Errno { _, _, e := a.Read(0, 0, 0); return e }, nil},
		{func(a *nand.Array) api.Errno { _, _, e := a.Read(0, 0, 4); return e }, nil},
		{func(a *nand.Array) api.Errno { _, _, e := a.Read(2, 0, 0); return e }, nil},
		{func(a *nand.Array) api.Errno { return a.Program(0, 0, 2, data, oob) }, []place{{0, 0, 2}}},
		{func(a *nand.Array) api.Errno { return a.Program(0, 0, 3, data, oob) }, nil},
		{func(a *nand.Array) api.Errno { return a.Program(0, 0, 1, data, oob) }, nil},
		{func(a *nand.Array) api.Errno { return a.Program(0, 0, 4, data, oob) }, nil},
		{func(a *nand.Array) api.Errno { return a.Program(0, 0, -1, data, oob) }, nil},
		{func(a *nand.Array) api.Errno { return a.Program(0, 0, 2, data[1:], oob) }, nil},
		{func(a *nand.Array) api.Errno { return a.Program(0, 0, 2, data, nil) }, nil},
		{func(a *nand.Array) api.Errno { return a.Program(0, 1, 1, data, oob) }, nil},
		{func(a *nand.Array) api.Errno { return a.Program(2, 0, 0, data, oob) }, nil},
		{func(a *nand.Array) api.Errno { return a.Erase(0, 0) }, []place{{0, 0, 0}, {0, 0, 1}, {0, 0, 2}, {0, 0, 3}}},
		{func(a *nand.Array) api.Errno { return a.Erase(0, 1) }, nil},
		{func(a *nand.Array) api.Errno { return a.Erase(2, 1) }, nil},
	} {
		a, was := begin(), begin().Copy()
		if e := c.do(a); e != api.Crash || !a.Off() || a.Ops() != 5 {
			t.Error(i, e, a.Off(), a.Ops())
		}
		if e := put(a, 3, 3, 0, 1); e != api.Crash || a.Ops() != 5 {
			t.Error(i, "without power:", e, a.Ops())
		}
		a.Boot()
		for _, at := range c.touched {
			has(t, a, at.chip, at.block, at.page, row[:256], row[256:])
		}
		for b := range 4 {
			for p := range 4 {
				if wantData, wantOob, _ := was.Read(0, b, p); !slices.Contains(c.touched, place{0, b, p}) {
					has(t, a, 0, b, p, wantData, wantOob)
				}
			}
		}
		if len(c.touched) == 0 && !nand.Same(a, was) {
			t.Error(i, "something is changed")
		}
	}
}

// P4.1: behind a Crash the block isn't bad: the page behind the one that was programmed is the next; of one that was erased none is, till it is erased again.
func TestBehindCrash(t *testing.T) {
	a := chips(t, nand.Event{Op: 2, Kind: nand.Crash, Left: []byte{255}}, nand.Event{Op: 4, Kind: nand.Crash, Left: []byte{255}})
	put(a, 0, 0, 0, 1)
	put(a, 0, 0, 1, 2)
	a.Boot()
	if e := put(a, 0, 0, 2, 3); e != api.OK {
		t.Error("the page behind:", e)
	}
	a.Erase(0, 0)
	a.Boot()
	for p := range 4 {
		if e := put(a, 0, 0, p, 1); e != api.Order {
			t.Error("page", p, e)
		}
	}
	if e := a.Erase(0, 0); e != api.OK || a.Erases(0)[0] != 1 {
		t.Error("erased again:", e, a.Erases(0))
	}
	if e := put(a, 0, 0, 0, 1); e != api.OK {
		t.Error("programmed again:", e)
	}
}

// P4.1: a Fail at each operation: a page that stands next, or all of a block, have what is left; the block is bad from then on.
func TestFail(t *testing.T) {
	data, oob := page(1)
	for i, c := range []struct {
		do      func(a *nand.Array) api.Errno
		want    api.Errno
		bad     bool // block 0 is bad behind it
		next    byte // its next page, as an image tells it
		touched []int
	}{
		{func(a *nand.Array) api.Errno { _, _, e := a.Read(0, 0, 0); return e }, api.OK, false, 2, nil},
		{func(a *nand.Array) api.Errno { _, _, e := a.Read(0, 0, 4); return e }, api.Range, false, 2, nil},
		{func(a *nand.Array) api.Errno { return a.Program(0, 0, 2, data, oob) }, api.Fail, true, 3, []int{2}},
		{func(a *nand.Array) api.Errno { return a.Program(0, 0, 3, data, oob) }, api.Order, false, 2, nil},
		{func(a *nand.Array) api.Errno { return a.Program(0, 0, 0, data, oob) }, api.Order, false, 2, nil},
		{func(a *nand.Array) api.Errno { return a.Program(0, 0, 4, data, oob) }, api.Range, false, 2, nil},
		{func(a *nand.Array) api.Errno { return a.Program(0, 0, 2, nil, oob) }, api.Range, false, 2, nil},
		{func(a *nand.Array) api.Errno { return a.Program(2, 0, 0, data, oob) }, api.Dead, false, 2, nil},
		{func(a *nand.Array) api.Errno { return a.Erase(2, 0) }, api.Dead, false, 2, nil},
		{func(a *nand.Array) api.Errno { return a.Erase(0, 0) }, api.Fail, true, 4, []int{0, 1, 2, 3}},
		{func(a *nand.Array) api.Errno { return a.Erase(0, 1) }, api.Fail, false, 2, nil},
		{func(a *nand.Array) api.Errno { return a.Program(0, 1, 0, data, oob) }, api.Fail, false, 2, nil},
	} {
		a, _ := nand.New(small, [][2]int{{0, 1}}, nand.Event{Op: 3, Kind: nand.Fail, Left: []byte{6}})
		put(a, 0, 0, 0, 1)
		put(a, 0, 0, 1, 2)
		a.Kill(2)
		was := a.Copy()
		if e := c.do(a); e != c.want || a.Off() || a.Ops() != 3 {
			t.Error(i, e, a.Off(), a.Ops())
		}
		if !c.bad && !nand.Same(a, was) {
			t.Error(i, "something is changed")
		}
		image := a.Dump()
		if is := image[13] == 1; is != c.bad || image[14] != c.next || slices.Max(a.Erases(0)) != 0 {
			t.Error(i, "bad", is, "next", image[14], a.Erases(0))
		}
		sixes := bytes.Repeat([]byte{6}, 256)
		for p := range 4 {
			if slices.Contains(c.touched, p) {
				has(t, a, 0, 0, p, sixes, sixes[:64])
				continue
			}
			wantData, wantOob, _ := was.Read(0, 0, p)
			has(t, a, 0, 0, p, wantData, wantOob)
		}
		if !c.bad {
			continue
		}
		if e := a.Program(0, 0, int(c.next)%4, data, oob); e != api.Fail {
			t.Error(i, "programmed behind it:", e)
		}
		if e := a.Erase(0, 0); e != api.Fail {
			t.Error(i, "erased behind it:", e)
		}
	}
}

// P4.1: a Die at each operation: its chip is dead from then on, the operation's own or another one; one that isn't there is nothing.
func TestDie(t *testing.T) {
	data, oob := page(1)
	for chip := -1; chip <= 4; chip++ {
		for i, c := range []struct {
			do   func(a *nand.Array) api.Errno
			want api.Errno
		}{
			{func(a *nand.Array) api.Errno { _, _, e := a.Read(1, 0, 0); return e }, api.OK},
			{func(a *nand.Array) api.Errno { _, _, e := a.Read(1, 0, 4); return e }, api.Range},
			{func(a *nand.Array) api.Errno { return a.Program(1, 0, 1, data, oob) }, api.OK},
			{func(a *nand.Array) api.Errno { return a.Program(1, 0, 2, data, oob) }, api.Order},
			{func(a *nand.Array) api.Errno { return a.Program(1, 0, 4, data, oob) }, api.Range},
			{func(a *nand.Array) api.Errno { return a.Program(1, 0, 1, data, nil) }, api.Range},
			{func(a *nand.Array) api.Errno { return a.Program(1, 1, 0, data, oob) }, api.Fail},
			{func(a *nand.Array) api.Errno { return a.Erase(1, 0) }, api.OK},
			{func(a *nand.Array) api.Errno { return a.Erase(1, 1) }, api.Fail},
		} {
			a, _ := nand.New(small, [][2]int{{1, 1}}, nand.Event{Op: 2, Kind: nand.Die, Chip: chip, Left: []byte{1}})
			put(a, 1, 0, 0, 1)
			was := a.Copy()
			want := c.want
			if chip == 1 {
				want = api.Dead
			}
			if e := c.do(a); e != want || a.Off() || a.Ops() != 2 {
				t.Error(chip, i, e, a.Off(), a.Ops())
			}
			for n := range 4 {
				if a.Dead(n) != (n == chip) {
					t.Error(chip, i, "dead:", n, a.Dead(n))
				}
			}
			// What a dead chip holds is as it was.
			if was.Kill(chip); chip == 1 && !nand.Same(a, was) {
				t.Error(chip, i, "something is changed")
			}
		}
	}
}

// P4.1, P1 (rules 2, 6): no numbers make an operation end badly, and beside an error there are no bytes.
func TestAnyNumbers(t *testing.T) {
	a := chips(t)
	far := []int{-1 << 63, -1 << 31, -1, 0, 3, 4, 15, 16, 1 << 31, 1<<63 - 1}
	data, oob := page(1)
	for _, chip := range far {
		for _, b := range far {
			for _, p := range far {
				here := chip >= 0 && chip < 4 && b >= 0 && b < 16
				gotData, gotOob, e := a.Read(chip, b, p)
				if (e == api.OK) != (here && p >= 0 && p < 4) || e != api.OK && (e != api.Range || gotData != nil || gotOob != nil) {
					t.Error("Read:", chip, b, p, e, gotData, gotOob)
				}
				if e := a.Program(chip, b, p, data, oob); e == api.OK && (!here || p != 0) {
					t.Error("Program:", chip, b, p, e)
				}
				if e := a.Erase(chip, b); (e == api.OK) != here || e != api.OK && e != api.Range {
					t.Error("Erase:", chip, b, e)
				}
			}
		}
	}
}

package stripe_test

import (
	"fmt"
	"slices"
	"testing"

	"gabion/api"
	"gabion/geom"
	"gabion/nand"
	"gabion/stripe"
	"gabion/vol"
)

// small is a shape of which each operation can be gone through.
var small = api.Geo{Chips: 4, Blocks: 16, Pages: 4, Size: 256}

// segs are the segments that are written below, one behind the other, each from row 0 on.
var segs = []int{6, 10}

// chips is members on an array; first is ahead of the others.
type chips struct {
	a     *nand.Array
	vols  []*vol.Vol // nil: the chip is dead
	first int
}

func (d *chips) Geo() api.Geo { return d.a.Geo() }

func (d *chips) Ahead() int { return d.first }

func (d *chips) Read(m, block, page int) (data, oob []byte, e api.Errno) {
	if d.vols[m] == nil {
		return nil, nil, api.Dead
	}
	return d.vols[m].Read(block, page)
}

func (d *chips) Program(m, block, page int, data, oob []byte) api.Errno {
	if d.vols[m] == nil {
		return api.Dead
	}
	return d.vols[m].Program(block, page, data, oob)
}

// ready: an array whose chips are formatted.
func ready(t *testing.T) *nand.Array {
	t.Helper()
	a, e := nand.New(small, nil)
	if e != api.OK {
		t.Fatal(e)
	}
	for m := range small.Chips {
		if _, e := vol.Format(a, m); e != api.OK {
			t.Fatal(e)
		}
	}
	return a
}

// mount: members on chips as they were left.
func mount(t *testing.T, a *nand.Array, first int) *chips {
	t.Helper()
	d := &chips{a: a, first: first}
	for m := range small.Chips {
		v, e := vol.Open(a, m)
		if e != api.OK && e != api.Dead {
			t.Fatal("chip", m, e)
		}
		d.vols = append(d.vols, v)
	}
	return d
}

// stripes: what the rows of a segment are to be.
func stripes(seg int) [][]stripe.Page {
	var l [][]stripe.Page
	for row := range small.Pages {
		l = append(l, pages(small, seg*small.Pages+row))
	}
	return l
}

// write: stripes are written till one is refused: how many were written, and the error.
func write(d *chips) (int, api.Errno) {
	many := 0
	for _, seg := range segs {
		for row, l := range stripes(seg) {
			if e := stripe.Write(d, seg, row, l...); e != api.OK {
				return many, e
			}
			many++
		}
	}
	return many, api.OK
}

// holds: of all stripes the first so many are read and whole, the next one is anything but another one, those behind it blank.
func holds(t *testing.T, what string, d *chips, many int) {
	t.Helper()
	n := 0
	for _, seg := range segs {
		for row, l := range stripes(seg) {
			switch {
			case n < many:
				reads(t, what, d, seg, row, l)
				whole(t, what, d, seg, row, l)
			case n == many:
				if got, kind, e := stripe.Row(d, seg, row); e != api.OK || kind == stripe.Whole && !slices.EqualFunc(got, l, same) {
					t.Error(what, seg, row, kind, e)
				}
			default:
				not(t, what, d, seg, row, stripe.Blank)
			}
			n++
		}
	}
}

// operations: the first and the last at which all is written, on chips that were mounted.
func operations(t *testing.T, a *nand.Array) (from, to int) {
	t.Helper()
	c := a.Copy()
	d := mount(t, c, -1)
	from = c.Ops() + 1
	if many, e := write(d); e != api.OK || many != len(segs)*small.Pages {
		t.Fatal(many, e)
	}
	return from, c.Ops()
}

// P10.2, P4: any one chip dies, at any operation: all is written, and read; also when it is mounted again.
func TestChipDies(t *testing.T) {
	a := ready(t)
	from, to := operations(t, a)
	for op := from; op <= to; op++ {
		for chip := range small.Chips {
			what := fmt.Sprint("chip ", chip, " dies at ", op, ":")
			c := a.Copy(nand.Event{Op: op, Kind: nand.Die, Chip: chip})
			d := mount(t, c, op%5-1)
			many, e := write(d)
			if e != api.OK {
				t.Fatal(what, many, e)
			}
			holds(t, what, d, many)
			holds(t, what, mount(t, c, -1), many)
		}
	}
}

// P10.2: any one chip dies behind it all; of two nothing can be told.
func TestChipDeadBehind(t *testing.T) {
	a := ready(t)
	d := mount(t, a, 2)
	many, e := write(d)
	if e != api.OK {
		t.Fatal(e)
	}
	for one := range small.Chips {
		c := a.Copy()
		c.Kill(one)
		holds(t, fmt.Sprint("chip ", one, " is dead:"), mount(t, c, -1), many)
		c.Kill((one + 1) % small.Chips)
		unknown(t, "two chips are dead:", mount(t, c, -1), segs[0], 0, api.Lost)
		if e := stripe.Write(mount(t, c, -1), 7, 0, pages(small, 1)...); e != api.Lost {
			t.Error(one, "two chips are dead:", e)
		}
	}
}

// P10.2: the power goes at any operation: what was written ahead of it is read, also if any one chip is dead then, or was.
func TestCrash(t *testing.T) {
	a := ready(t)
	from, to := operations(t, a)
	for op := from; op <= to; op++ {
		for was := -1; was < small.Chips; was++ {
			what := fmt.Sprint("a crash at ", op, " chip ", was, " dead:")
			c := a.Copy(nand.Event{Op: op, Kind: nand.Crash, Left: []byte{byte(op), 7}})
			d := mount(t, c, was)
			c.Kill(was)
			many, e := write(d)
			if e != api.Crash {
				if was < 0 || e != api.OK {
					t.Error(what, many, e)
				}
				continue
			}
			unread(t, what, d, geom.Place{Seg: segs[0]}, api.Crash)
			unknown(t, what, d, segs[0], 0, api.Crash)
			c.Boot()
			holds(t, what, mount(t, c, -1), many)
			for dead := range small.Chips {
				if was >= 0 {
					break
				}
				k := c.Copy()
				k.Kill(dead)
				holds(t, fmt.Sprint(what, " then chip ", dead, " is:"), mount(t, k, -1), many)
			}
		}
	}
}

// P10.2: blocks fail, at any operation, and one chip is dead: nothing is to be seen of it.
func TestBlocksFail(t *testing.T) {
	a := ready(t)
	from, to := operations(t, a)
	for op := from; op <= to; op++ {
		for dead := -1; dead < small.Chips; dead++ {
			what := fmt.Sprint("a block fails at ", op, " chip ", dead, " dead:")
			c := a.Copy(nand.Event{Op: op, Kind: nand.Fail, Left: []byte{1, 2, 3}})
			d := mount(t, c, dead)
			c.Kill(dead)
			many, e := write(d)
			if e != api.OK {
				t.Error(what, many, e)
			}
			holds(t, what, d, many)
			holds(t, what, mount(t, c, -1), many)
		}
	}
}

package stage_test

import (
	"fmt"
	"slices"
	"testing"

	"gabion/api"
	"gabion/nand"
	"gabion/stage"
	"gabion/stripe"
	"gabion/vol"
)

// small is a shape of which each operation can be gone through; member 4 has no pair.
var small = api.Geo{Chips: 5, Blocks: 16, Pages: 4, Size: 256}

// chips is members on an array; first is ahead of the others.
type chips struct {
	a     *nand.Array
	vols  []*vol.Vol // nil: the chip is dead
	first int
}

func (d *chips) Geo() api.Geo { return d.a.Geo() }

func (d *chips) Ahead() int { return d.first }

func (d *chips) Read(m, block, page int) (data, oob []byte, e api.Errno) {
	if d.vols[m] == nil {
		return nil, nil, api.Dead
	}
	return d.vols[m].Read(block, page)
}

func (d *chips) Program(m, block, page int, data, oob []byte) api.Errno {
	if d.vols[m] == nil {
		return api.Dead
	}
	return d.vols[m].Program(block, page, data, oob)
}

// ready: an array whose chips are formatted.
func ready(t *testing.T) *nand.Array {
	t.Helper()
	a, e := nand.New(small, nil)
	if e != api.OK {
		t.Fatal(e)
	}
	for m := range small.Chips {
		if _, e := vol.Format(a, m); e != api.OK {
			t.Fatal(e)
		}
	}
	return a
}

// mount: members on chips as they were left.
func mount(t *testing.T, a *nand.Array, first int) *chips {
	t.Helper()
	d := &chips{a: a, first: first}
	for m := range small.Chips {
		v, e := vol.Open(a, m)
		if e != api.OK && e != api.Dead {
			t.Fatal("chip", m, e)
		}
		d.vols = append(d.vols, v)
	}
	return d
}

// staged: what is put, in both blocks in turn: as many pages in each as have room.
func staged() [2][]stripe.Page {
	var l [2][]stripe.Page
	for which := range l {
		for n := range room(small) {
			l[which] = append(l[which], page(small, 100*which+n))
		}
	}
	return l
}

// write: pages are put, one block behind the other, till one is refused: how many were, and the error.
func write(d *chips) (int, api.Errno) {
	many := 0
	for which, l := range staged() {
		for n, p := range l {
			if e := stage.Put(d, which, n, p); e != api.OK {
				return many, e
			}
			many++
		}
	}
	return many, api.OK
}

// holds: of all pages the first so many are got, and so may be the next one, if it was just being put; none behind it.
func holds(t *testing.T, what string, d *chips, many int, next bool) {
	t.Helper()
	for which, l := range staged() {
		here := min(max(many-which*len(l), 0), len(l))
		got, e := stage.All(d, which)
		if next && e == api.OK && len(got) == here+1 && many >= which*len(l) {
			here++
		}
		if e != api.OK || !slices.EqualFunc(got, l[:here], same) {
			t.Error(what, "block", which, "has", len(got), "of", here, e)
		}
	}
}

// operations: the first and the last at which all is put, on chips that were mounted.
func operations(t *testing.T, a *nand.Array) (from, to int) {
	t.Helper()
	c := a.Copy()
	d := mount(t, c, -1)
	from = c.Ops() + 1
	if many, e := write(d); e != api.OK || many != 2*room(small) {
		t.Fatal(many, e)
	}
	return from, c.Ops()
}

// P11.2, P4: any one chip dies, at any operation: all is put, and got; also when it is mounted again.
func TestChipDies(t *testing.T) {
	a := ready(t)
	from, to := operations(t, a)
	for op := from; op <= to; op++ {
		for chip := range small.Chips {
			what := fmt.Sprint("chip ", chip, " dies at ", op, ":")
			c := a.Copy(nand.Event{Op: op, Kind: nand.Die, Chip: chip})
			d := mount(t, c, op%6-1)
			many, e := write(d)
			if e != api.OK {
				t.Fatal(what, many, e)
			}
			holds(t, what, d, many, false)
			holds(t, what, mount(t, c, -1), many, false)
		}
	}
}

// P11.2: any one chip dies behind it all; of two of one pair nothing is got, of two others all is.
func TestChipDeadBehind(t *testing.T) {
	a := ready(t)
	many, e := write(mount(t, a, 2))
	if e != api.OK {
		t.Fatal(e)
	}
	for one := range small.Chips {
		c := a.Copy()
		c.Kill(one)
		holds(t, fmt.Sprint("chip ", one, " is dead:"), mount(t, c, -1), many, false)
		two := (one + 1) % small.Chips
		c.Kill(two)
		d := mount(t, c, -1)
		if two != one+1 || one%2 > 0 {
			holds(t, fmt.Sprint("chips ", one, " and ", two, " are dead:"), d, many, false)
			continue
		}
		isNot(t, "a pair is dead:", d, 0, one/2, api.IO)
		if e := stage.Put(d, 1, one/2, page(small, 1)); e != api.Lost {
			t.Error(one, "a pair is dead:", e)
		}
	}
}

// P11.2: the power goes at any operation: what was put ahead of it is got, also if any one chip is dead then, or was.
func TestCrash(t *testing.T) {
	a := ready(t)
	from, to := operations(t, a)
	for op := from; op <= to; op++ {
		for was := -1; was < small.Chips; was++ {
			what := fmt.Sprint("a crash at ", op, " chip ", was, " dead:")
			c := a.Copy(nand.Event{Op: op, Kind: nand.Crash, Left: []byte{byte(op), 7}})
			d := mount(t, c, was)
			c.Kill(was)
			many, e := write(d)
			if e != api.Crash {
				if was < 0 || e != api.OK {
					t.Error(what, many, e)
				}
				continue
			}
			isNot(t, what, d, 0, 0, api.Crash)
			c.Boot()
			holds(t, what, mount(t, c, -1), many, true)
			for dead := range small.Chips {
				if was >= 0 {
					break
				}
				k := c.Copy()
				k.Kill(dead)
				holds(t, fmt.Sprint(what, " then chip ", dead, " is:"), mount(t, k, -1), many, true)
			}
		}
	}
}

// P11.2: blocks fail, at any operation, and one chip is dead: nothing is to be seen of it.
func TestBlocksFail(t *testing.T) {
	a := ready(t)
	from, to := operations(t, a)
	for op := from; op <= to; op++ {
		for dead := -1; dead < small.Chips; dead++ {
			what := fmt.Sprint("a block fails at ", op, " chip ", dead, " dead:")
			c := a.Copy(nand.Event{Op: op, Kind: nand.Fail, Left: []byte{1, 2, 3}})
			d := mount(t, c, dead)
			c.Kill(dead)
			many, e := write(d)
			if e != api.OK {
				t.Error(what, many, e)
			}
			holds(t, what, d, many, false)
			holds(t, what, mount(t, c, -1), many, false)
		}
	}
}

package array_test

import (
	"bytes"
	"math"
	"slices"
	"testing"

	"gabion/api"
	"gabion/array"
	"gabion/geom"
	"gabion/member"
	"gabion/nand"
	"gabion/record"
	"gabion/stage"
	"gabion/stripe"
	"gabion/vol"
)

// wrongs: numbers that are none of so many.
func wrongs(many int) []int {
	return []int{math.MinInt, -256, -1, many, many + 1, 255, math.MaxInt}
}

// edges: virtual blocks, the first and the last among them.
func edges(g api.Geo) []int { return []int{0, 1, 2, 3, 4, 5, 6, g.Virtual() - 1} }

// reads: is a stripe whole, even and read, page by page?
func reads(t *testing.T, what string, x *array.Array, seg, row int, l []stripe.Page) {
	t.Helper()
	got, is, e := stripe.Row(x, seg, row)
	if e != api.OK || is != stripe.Whole || !slices.EqualFunc(got, l, same) {
		t.Error(what, "stripe", seg, row, "is", is, e)
	}
	if ok, e := stripe.Even(x, seg, row); !ok || e != api.OK {
		t.Error(what, "stripe", seg, row, "is even:", ok, e)
	}
	for slot, p := range l {
		if got, e := stripe.Read(x, geom.Place{Seg: seg, Row: row, Slot: slot}); e != api.OK || !same(got, p) {
			t.Error(what, "stripe", seg, row, slot, e)
		}
	}
}

// P13.1: what is programmed on a member is read, on its chip and no other one; what is handed in and answered is nobody else's.
func TestReadProgram(t *testing.T) {
	for _, g := range shapes {
		a, x := format(t, g)
		for i, b := range edges(g) {
			row := 0
			if b == 0 {
				row = 1 // the set stands in the first one
			}
			for _, m := range []int{0, 1, g.Chips - 1} {
				data, oob := sealed(page(g, 100*i+m))
				was, beside := bytes.Clone(data), bytes.Clone(oob)
				if e := x.Program(m, b, row, data, oob); e != api.OK {
					t.Fatal(g, m, b, e)
				}
				if !bytes.Equal(data, was) || !bytes.Equal(oob, beside) {
					t.Error(g, m, b, "changes what it is given")
				}
				data[0], oob[0] = data[0]+1, oob[0]+1
				for range 2 {
					d, o, e := x.Read(m, b, row)
					if e != api.OK || !bytes.Equal(d, was) || !bytes.Equal(o, beside) {
						t.Error(g, m, b, e)
					}
					d[1], o[1] = d[1]+1, o[1]+1
				}
				if d, o, e := chip(t, "programmed:", a, m).Read(b, row); e != api.OK || !bytes.Equal(d, was) || !bytes.Equal(o, beside) {
					t.Error(g, m, b, "isn't on its chip", e)
				}
			}
			if d, _, e := x.Read(2, b, row); g.Chips > 3 && (e != api.OK || !erased(d)) {
				t.Error(g, b, "another member has it, too", e)
			}
		}
	}
}

// P13.1: Erase is of all members, and of one block.
func TestErase(t *testing.T) {
	for _, g := range shapes[:3] {
		for _, b := range edges(g) {
			_, x := format(t, g)
			other := 7
			for m := range g.Chips {
				data, oob := sealed(page(g, m))
				for _, block := range []int{b, other} {
					if e := x.Program(m, block, first0(block), data, oob); e != api.OK {
						t.Fatal(g, b, m, e)
					}
				}
			}
			if e := x.Erase(b); e != api.OK {
				t.Fatal(g, b, e)
			}
			for m := range g.Chips {
				for p := range g.Pages {
					if d, o, e := x.Read(m, b, p); e != api.OK || !erased(d) || !erased(o) {
						t.Error(g, b, m, p, e)
					}
				}
				want := page(g, m).Data
				if d, _, e := x.Read(m, other, 0); e != api.OK || b != other && !bytes.Equal(d, want) {
					t.Error(g, b, m, "another block is gone", e)
				}
				data, oob := sealed(page(g, 50+m))
				if e := x.Program(m, b, 0, data, oob); e != api.OK {
					t.Error(g, b, m, "can't be programmed again", e)
				}
			}
		}
	}
}

// first0: the first row of a new array's block in which nothing stands.
func first0(b int) int {
	if b == 0 {
		return 1
	}
	return 0
}

// P13.1: no such member, block or page; a page of a wrong length; a page that isn't the next one.
func TestRange(t *testing.T) {
	for _, g := range shapes {
		a, x := format(t, g)
		data, oob := sealed(page(g, 1))
		ops := a.Ops()
		ask := func(m, b int) {
			t.Helper()
			if d, o, e := x.Read(m, b, 0); len(d)+len(o) > 0 || e != api.Range {
				t.Error(g, m, b, "Read:", e)
			}
			if e := x.Program(m, b, 0, data, oob); e != api.Range {
				t.Error(g, m, b, "Program:", e)
			}
		}
		for _, m := range wrongs(g.Chips) {
			for _, b := range []int{-1, 0, 6, g.Virtual() - 1, g.Virtual()} {
				ask(m, b)
			}
		}
		for _, b := range wrongs(g.Virtual()) {
			for m := range g.Chips {
				ask(m, b)
			}
			if e := x.Erase(b); e != api.Range {
				t.Error(g, b, "Erase:", e)
			}
		}
		if a.Ops() != ops {
			t.Error(g, "chips were asked")
		}
		for _, p := range wrongs(g.Pages) {
			if d, o, e := x.Read(0, 6, p); len(d)+len(o) > 0 || e != api.Range {
				t.Error(g, p, "Read:", e)
			}
			if e := x.Program(0, 6, p, data, oob); e != api.Range {
				t.Error(g, p, "Program:", e)
			}
		}
		for _, l := range [][2][]byte{{nil, oob}, {data, nil}, {data[1:], oob}, {data, oob[1:]}, {append(slices.Clone(data), 0), oob}, {data, append(slices.Clone(oob), 0)}, {oob, data}, {nil, nil}} {
			if e := x.Program(1, 6, 0, l[0], l[1]); e != api.Range {
				t.Error(g, len(l[0]), len(l[1]), e)
			}
		}
		if e := x.Program(1, 6, 1, data, oob); e != api.Order {
			t.Error(g, "not the next one:", e)
		}
		if e := x.Program(1, 6, 0, data, oob); e != api.OK {
			t.Error(g, e)
		}
		if e := x.Program(1, 6, 0, data, oob); e != api.Order {
			t.Error(g, "twice:", e)
		}
	}
}

// P13.1: a member whose chip dies is dead from the first answer on; all else goes on.
func TestMemberDies(t *testing.T) {
	for _, g := range shapes {
		for _, m := range []int{0, 1, g.Chips - 1} {
			for how := range 3 {
				a, x := format(t, g)
				want := first(g, 2)
				a.Kill(m)
				isSet(t, "not told yet:", x, want)
				data, oob := sealed(page(g, 1))
				var e api.Errno
				switch how {
				case 0:
					_, _, e = x.Read(m, 6, 0)
				case 1:
					e = x.Program(m, 6, 0, data, oob)
				case 2:
					if e = x.Erase(6); e == api.OK {
						e = api.Dead
					}
				}
				want.Dead = m
				if e != api.Dead || x.Ahead() != m || x.Lost() {
					t.Error(g, m, how, e, x.Ahead(), x.Lost())
				}
				isSet(t, "told:", x, want)
				ops := a.Ops()
				for _, b := range edges(g) {
					d, o, e := x.Read(m, b, 0)
					if is := x.Program(m, b, 0, data, oob); len(d)+len(o) > 0 || e != api.Dead || is != api.Dead {
						t.Error(g, m, b, e, is)
					}
				}
				if _, _, e := x.Read(m, g.Virtual(), 0); e != api.Range {
					t.Error(g, m, "no such block:", e)
				}
				if a.Ops() != ops {
					t.Error(g, m, "a dead chip is asked again")
				}
				l := pages(g, 9)
				if e := stripe.Write(x, 7, 0, l...); e != api.OK {
					t.Error(g, m, e)
				}
				reads(t, "one is dead:", x, 7, 0, l)
				if e := x.Erase(7); e != api.OK {
					t.Error(g, m, e)
				}
			}
		}
	}
}

// P13.1: a second member dies: Lost, from then on, of all that is about members; behind Range.
func TestLost(t *testing.T) {
	data, oob := sealed(page(even, 1))
	for how := range 4 {
		a, x := format(t, even)
		a.Kill(1)
		x.Read(1, 6, 0)
		want := x.Set()
		a.Kill(3)
		if x.Lost() {
			t.Error(how, "not told yet")
		}
		var e api.Errno
		switch how {
		case 0:
			_, _, e = x.Read(3, 6, 0)
		case 1:
			e = x.Program(3, 6, 0, data, oob)
		case 2:
			e = x.Erase(6)
		case 3:
			e = stripe.Write(x, 6, 0, pages(even, 1)...)
		}
		if e != api.Lost || !x.Lost() || x.Ahead() != 1 || x.Geo() != even {
			t.Error(how, e, x.Lost(), x.Ahead())
		}
		isSet(t, "lost:", x, want)
		lost(t, "lost:", a, x)
		for _, b := range wrongs(even.Virtual()) {
			_, _, e := x.Read(1, b, 0)
			if is := x.Program(0, b, 0, data, oob); e != api.Range || is != api.Range || x.Erase(b) != api.Range {
				t.Error(how, b, e, is)
			}
		}
		for _, m := range wrongs(even.Chips) {
			_, _, e := x.Read(m, 6, 0)
			if is := x.Program(m, 6, 0, data, oob); e != api.Range || is != api.Range {
				t.Error(how, m, e, is)
			}
		}
	}
}

// lost: is all that is about members Lost, also when it is opened again?
func lost(t *testing.T, what string, a *nand.Array, x *array.Array) {
	t.Helper()
	data, oob := sealed(page(a.Geo(), 1))
	for m := range a.Geo().Chips {
		for _, b := range edges(a.Geo()) {
			d, o, e := x.Read(m, b, 0)
			if is := x.Program(m, b, 0, data, oob); e != api.Lost || is != api.Lost || len(d)+len(o) > 0 {
				t.Error(what, m, b, e, is)
			}
			if e := x.Erase(b); e != api.Lost {
				t.Error(what, b, e)
			}
		}
	}
	if all, e := x.Tick(); all || e != api.Lost || !x.Lost() {
		t.Error(what, "Tick:", all, e, x.Lost())
	}
	refused(t, what, a.Copy(), api.Lost)
}

// half: an array of which member 1 is dead, and the blocks ahead of one were made anew.
func half(t *testing.T, g api.Geo, done int) (*nand.Array, *array.Array) {
	t.Helper()
	a, x := format(t, g)
	a.Kill(1)
	if e := x.Erase(6); e != api.OK {
		t.Fatal(e)
	}
	for x.Set().Done < done {
		if all, e := x.Tick(); all || e != api.OK {
			t.Fatal(all, e)
		}
	}
	return a, x
}

// P13.1: Program of a dead member: the chip in reserve gets the page, if the block was made anew; it is Dead all the same, and isn't read.
func TestProgramMadeAnew(t *testing.T) {
	for _, g := range shapes[:3] {
		for done := 2; done < g.Virtual(); done++ {
			a, x := half(t, g, done)
			data, oob := sealed(page(g, done))
			for b := 2; b < g.Virtual(); b++ {
				d, o, is := x.Read(1, b, 0)
				if e := x.Program(1, b, 0, data, oob); e != api.Dead || is != api.Dead || len(d)+len(o) > 0 {
					t.Error(g, done, b, e, is)
				}
				if _, _, e := x.Read(1, b, 0); e != api.Dead {
					t.Error(g, done, b, e)
				}
				d, o, e := chip(t, "in reserve:", a, g.Chips).Read(b, 0)
				if e != api.OK || b < done && !(bytes.Equal(d, data) && bytes.Equal(o, oob)) || b >= done && !(erased(d) && erased(o)) {
					t.Error(g, done, b, "in reserve:", e)
				}
			}
			if x.Set().Done != done || x.Ahead() != 1 {
				t.Error(g, done, x.Set())
			}
		}
	}
}

// P13.1: Erase of a dead member's block: that of the chip in reserve is erased, if it was made anew.
func TestEraseMadeAnew(t *testing.T) {
	for done := 2; done < even.Virtual(); done++ {
		a, x := half(t, even, done)
		data, oob := sealed(page(even, done))
		// In all blocks of the chip in reserve stands a page, also where nothing was made anew.
		v, e := vol.Open(a, even.Chips)
		if e != api.OK {
			t.Fatal(e)
		}
		for b := 2; b < even.Virtual(); b++ {
			if e := v.Program(b, 0, data, oob); e != api.OK {
				t.Fatal(e)
			}
		}
		for b := 2; b < even.Virtual(); b++ {
			if e := x.Erase(b); e != api.OK {
				t.Error(done, b, e)
			}
			d, o, e := v.Read(b, 0)
			if e != api.OK || b < done && !(erased(d) && erased(o)) || b >= done && !(bytes.Equal(d, data) && bytes.Equal(o, oob)) {
				t.Error(done, b, e)
			}
		}
	}
}

// P13.1: a stripe's page, and a staged one, come to the chip in reserve ahead of all other members'.
func TestReserveAhead(t *testing.T) {
	for _, write := range []func(x *array.Array) api.Errno{
		func(x *array.Array) api.Errno { return stripe.Write(x, 6, 0, pages(even, 1)...) },
		func(x *array.Array) api.Errno { return stage.Put(x, 0, 0, page(even, 1)) },
	} {
		a, _ := half(t, even, even.Virtual()-1)
		c := a.Copy()
		x := open(t, "half:", c)
		from := c.Ops()
		if e := write(x); e != api.OK {
			t.Fatal(e)
		}
		to := c.Ops()
		for op := from + 1; op <= to; op++ {
			c := a.Copy(nand.Event{Op: op, Kind: nand.Crash})
			x := open(t, "half:", c)
			if e := write(x); e != api.Crash {
				t.Fatal(op, e)
			}
			for m, at := range map[int]int{0: 0, 1: even.Chips, 2: 2, 3: 3} {
				for _, b := range []int{4, 6} {
					d, o, e := chip(t, "cut off:", c, at).Read(b, 0)
					if e != api.OK || m != 1 && op == from+1 && !erased(d) {
						t.Error(op, "member", m, "was ahead", e)
					}
					if _, ok := record.Open(d, o); m == 1 && op > from+1 && !ok && !erased(d) {
						t.Error(op, "what was programmed is gone")
					}
				}
			}
		}
	}
}

// P13.1: the chip in reserve dies while it gets a page, or is erased: there is none then; all goes on without it.
func TestReserveDies(t *testing.T) {
	data, oob := sealed(page(even, 1))
	for _, done := range []int{3, 7, even.Virtual() - 1} {
		for how := range 4 {
			a, x := half(t, even, done)
			want := with(x.Set(), func(s *member.Set) { s.Spare, s.Done = none, 0 })
			a.Kill(even.Chips)
			b := done - 1
			var e api.Errno
			switch how {
			case 0:
				e = x.Program(1, b, 0, data, oob)
			case 1:
				e = x.Erase(b)
			case 2:
				e = stripe.Write(x, b, 0, pages(even, 1)...)
			case 3:
				_, e = x.Tick()
			}
			if dead := how == 0 || how == 3; dead && e != api.Dead || !dead && e != api.OK {
				t.Error(done, how, e)
			}
			isSet(t, "that in reserve is dead:", x, want)
			ops := a.Ops()
			if all, e := x.Tick(); all || e != api.State || a.Ops() != ops {
				t.Error(done, how, all, e)
			}
			if e := x.Program(1, b, 0, data, oob); e != api.Dead || a.Ops() != ops {
				t.Error(done, how, e)
			}
			if e := x.Erase(b); e != api.OK || x.Lost() {
				t.Error(done, how, e)
			}
			y := open(t, "then:", a)
			want.Seq++
			isSet(t, "then:", y, want)
		}
	}
}

// P13.1: what else the chip in reserve answers comes through: it isn't passed over as dead.
func TestReserveErrors(t *testing.T) {
	data, oob := sealed(page(even, 1))
	_, x := half(t, even, 7)
	for _, s := range []struct {
		p    int
		d    []byte
		want api.Errno
	}{{0, data, api.Dead}, {0, data, api.Order}, {2, data, api.Order}, {-1, data, api.Range}, {even.Pages, data, api.Range}, {1, data[1:], api.Range}, {1, data, api.Dead}} {
		if e := x.Program(1, 6, s.p, s.d, oob); e != s.want {
			t.Error(s.p, len(s.d), e, "want", s.want)
		}
		if e := x.Program(1, 7, s.p, s.d, oob); e != api.Dead {
			t.Error(s.p, len(s.d), "not made anew:", e)
		}
	}
	a, _ := half(t, even, 7)
	c := a.Copy()
	open(t, "half:", c)
	op := c.Ops() + 1
	for kind, want := range map[int]api.Errno{nand.Crash: api.Crash, nand.Fail: api.Dead} {
		c := a.Copy(nand.Event{Op: op, Kind: kind})
		x := open(t, "half:", c)
		if e := x.Program(1, 6, 0, data, oob); e != want {
			t.Error(kind, e)
		}
	}
}

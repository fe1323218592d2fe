package array_test

import (
	"bytes"
	"fmt"
	"slices"
	"testing"

	"gabion/api"
	"gabion/array"
	"gabion/geom"
	"gabion/member"
	"gabion/nand"
	"gabion/stage"
	"gabion/stripe"
	"gabion/vol"
)

// full: ticks, till all members are there: how many it took.
func full(t *testing.T, what string, x *array.Array) int {
	t.Helper()
	for n := range x.Geo().Blocks {
		all, e := x.Tick()
		if e != api.OK {
			t.Fatal(what, n, e)
		}
		if all {
			return n + 1
		}
	}
	t.Fatal(what, "it never ends:", x.Set())
	return 0
}

// rows: how many rows of a segment are filled: of each one more than of that ahead of it; of the greatest shape, which takes its time, of few alone.
func rows(g api.Geo, seg int) int {
	if g == greatest && seg%8 != 2 {
		return 0
	}
	return seg % (g.Pages + 1)
}

// fill: stripes stand in the segments, and in both blocks for what is staged as many pages as have room, less which.
func fill(t *testing.T, x *array.Array) {
	t.Helper()
	g := x.Geo()
	for seg := geom.Points; seg < g.Virtual(); seg++ {
		if seg == geom.Stages || seg == geom.Stages+1 {
			for n := range stage.Room(g) - (seg - geom.Stages) {
				if e := stage.Put(x, seg-geom.Stages, n, page(g, 1000*seg+n)); e != api.OK {
					t.Fatal(seg, n, e)
				}
			}
			continue
		}
		for row := range rows(g, seg) {
			if e := stripe.Write(x, seg, row, pages(g, 100*seg+row)...); e != api.OK {
				t.Fatal(seg, row, e)
			}
		}
	}
}

// filled: is all there that fill laid, and nothing else?
func filled(t *testing.T, what string, x *array.Array) {
	t.Helper()
	g := x.Geo()
	for seg := geom.Points; seg < g.Virtual(); seg++ {
		if seg == geom.Stages || seg == geom.Stages+1 {
			which := seg - geom.Stages
			l, e := stage.All(x, which)
			if e != api.OK || len(l) != stage.Room(g)-which {
				t.Error(what, seg, len(l), e)
			}
			for n, p := range l {
				if !same(p, page(g, 1000*seg+n)) {
					t.Error(what, seg, n, "another page is staged")
				}
			}
			continue
		}
		for row := range g.Pages {
			if row < rows(g, seg) {
				reads(t, what, x, seg, row, pages(g, 100*seg+row))
			} else if _, is, e := stripe.Row(x, seg, row); is != stripe.Blank || e != api.OK {
				t.Error(what, seg, row, is, e)
			}
		}
	}
}

// P13.1, P13.2: as many ticks as there are virtual blocks, less one; one fewer isn't enough. What was dead is as it was, page by page; then any chip may die.
func TestTick(t *testing.T) {
	t.Parallel()
	for _, g := range shapes {
		a, x := format(t, g)
		fill(t, x)
		for _, m := range []int{0, 1, g.Chips - 2, g.Chips - 1} {
			if g == greatest && m%2 == 0 {
				continue // that takes its time
			}
			what := fmt.Sprint(g, " member ", m, ":")
			c := a.Copy()
			x := open(t, what, c)
			c.Kill(m)
			filled(t, what, x)
			want := x.Set()
			for n := 1; n < g.Virtual()-1; n++ {
				all, e := x.Tick()
				want.Seq++
				want.Done = n + 1
				if all || e != api.OK || x.Ahead() != m {
					t.Fatal(what, n, all, e)
				}
				isSet(t, what, x, want)
			}
			saved(t, what, c, want, others(g.Chips+1, m)...)
			all, e := x.Tick()
			if !all || e != api.OK || x.Ahead() != -1 || x.Lost() {
				t.Fatal(what, all, e, x.Ahead())
			}
			want.Seq++
			want.Dead, want.Done, want.Spare, want.Chips[m] = none, 0, none, g.Chips
			isSet(t, what, x, want)
			saved(t, what, c, want, others(g.Chips+1, m)...)
			filled(t, what, x)
			alike(t, what, a, c, m)
			survives(t, what, c, filled)
		}
	}
}

// others: so many chips, but one.
func others(many, but int) []int {
	var l []int
	for c := range many {
		if c != but {
			l = append(l, c)
		}
	}
	return l
}

// alike: has the chip that was in reserve the pages that a member's chip had, in all blocks but those for sets?
func alike(t *testing.T, what string, was, is *nand.Array, m int) {
	t.Helper()
	g := was.Geo()
	v, w := chip(t, what, was, m), chip(t, what, is, g.Chips)
	for b := geom.Points; b < g.Virtual(); b++ {
		for p := range g.Pages {
			d, o, _ := v.Read(b, p)
			if x, y, e := w.Read(b, p); e != api.OK || !bytes.Equal(d, x) || !bytes.Equal(o, y) {
				t.Error(what, "page", p, "of", b, "isn't as it was", e)
			}
		}
	}
}

// survives: all members of an array are there: any chip that isn't dead may die, and all is read, at once, or when it is opened again.
func survives(t *testing.T, what string, a *nand.Array, check func(t *testing.T, what string, x *array.Array)) {
	t.Helper()
	for c := range a.Chips() {
		if a.Dead(c) {
			continue
		}
		if a.Geo() == greatest && c%5 > 0 {
			continue // that takes its time
		}
		what := fmt.Sprint(what, " then chip ", c, " is dead:")
		k := a.Copy()
		x := open(t, what, k)
		k.Kill(c)
		if c%2 == 0 {
			x = open(t, what, k)
		}
		check(t, what, x)
	}
}

// P13.1: where all are there nothing is done, with and without a chip in reserve.
func TestTickFull(t *testing.T) {
	for _, g := range shapes {
		a, x := format(t, g)
		ops := a.Ops()
		for range 3 {
			if all, e := x.Tick(); !all || e != api.OK || a.Ops() != ops {
				t.Error(g, all, e)
			}
		}
		isSet(t, "all are there:", x, first(g, 2))
		// Who died, but wasn't asked, isn't known to be dead.
		a.Kill(0)
		if all, e := x.Tick(); !all || e != api.OK || a.Ops() != ops {
			t.Error(g, all, e)
		}
	}
	a, _ := format(t, least)
	a.Kill(3)
	x := open(t, "none in reserve:", a)
	ops := a.Ops()
	if all, e := x.Tick(); !all || e != api.OK || a.Ops() != ops {
		t.Error("none in reserve:", all, e)
	}
	isSet(t, "none in reserve:", x, with(first(least, 3), func(s *member.Set) { s.Spare = none }))
}

// P13.1: one is dead, and none in reserve.
func TestTickState(t *testing.T) {
	a, _ := format(t, least)
	a.Kill(0)
	x := open(t, "one dead:", a)
	full(t, "one dead:", x)
	// The chip that was in reserve is a member, and dies, too.
	a.Kill(3)
	if _, _, e := x.Read(0, 6, 0); e != api.Dead {
		t.Error(e)
	}
	ops, want := a.Ops(), x.Set()
	if want.Dead != 0 || want.Spare != none || x.Lost() {
		t.Error(want, x.Lost())
	}
	for range 2 {
		if all, e := x.Tick(); all || e != api.State || a.Ops() != ops {
			t.Error(all, e)
		}
	}
	isSet(t, "none in reserve:", x, want)
}

// P13.1: the chip in reserve dies, ahead of the first Tick, or between two.
func TestTickReserveDies(t *testing.T) {
	for ticks := range least.Virtual() - 1 {
		a, _ := format(t, least)
		a.Kill(1)
		x := open(t, "one dead:", a)
		for range ticks {
			if all, e := x.Tick(); all || e != api.OK {
				t.Fatal(ticks, all, e)
			}
		}
		want := with(x.Set(), func(s *member.Set) { s.Spare, s.Done = none, 0 })
		a.Kill(3)
		if all, e := x.Tick(); all || e != api.Dead {
			t.Error(ticks, all, e)
		}
		isSet(t, "that in reserve is dead:", x, want)
		for range 2 {
			if all, e := x.Tick(); all || e != api.State {
				t.Error(ticks, all, e)
			}
		}
		if x.Lost() {
			t.Error(ticks, "it isn't lost")
		}
	}
}

// P13.1: likewise, at each operation of a Tick: where that isn't told the chip was only missed when the set was saved.
func TestTickReserveDiesWithin(t *testing.T) {
	a, x := format(t, least)
	fill(t, x)
	a.Kill(1)
	for ticks := range least.Virtual() - 1 {
		y := open(t, "one dead:", a)
		if y.Set().Done != ticks+min(ticks, 1) {
			t.Fatal(ticks, y.Set())
		}
		c := a.Copy()
		y = open(t, "plain:", c)
		from := c.Ops()
		if _, e := y.Tick(); e != api.OK {
			t.Fatal(ticks, e)
		}
		to := c.Ops()
		for op := from + 1; op <= to; op++ {
			what := fmt.Sprint("at ", op, " of ", from, " to ", to, ", tick ", ticks, ":")
			c := a.Copy(nand.Event{Op: op, Kind: nand.Die, Chip: 3})
			y := open(t, what, c)
			all, e := y.Tick()
			if told := e == api.Dead; all || !told && e != api.OK || told && op > to-2*least.Chips || !told && op == from+1 {
				t.Error(what, all, e)
			}
			s := y.Set()
			if s.Dead != 1 || s.Spare != none || s.Done != 0 || y.Lost() {
				t.Error(what, s, y.Lost())
			}
			filled(t, what, y)
		}
		if _, e := open(t, "go on:", a).Tick(); e != api.OK {
			t.Fatal(ticks, e)
		}
	}
}

// P13.1: a chip that is dead isn't asked any longer, by a Tick neither: that in reserve is made ready, its table saved, and the set on all others.
func TestTickAsksNoDead(t *testing.T) {
	for _, g := range shapes[:3] {
		for m := range g.Chips {
			a, x := format(t, g)
			a.Kill(m)
			if e := x.Erase(6); e != api.OK {
				t.Fatal(e)
			}
			ops := a.Ops()
			if all, e := x.Tick(); all || e != api.OK {
				t.Fatal(all, e)
			}
			if n := a.Ops() - ops; n != g.Blocks+2+2*g.Chips {
				t.Error(g, m, "a Tick took", n)
			}
		}
	}
}

// P13.1: too many of the blocks of the chip in reserve are bad.
func TestTickFails(t *testing.T) {
	a, e := nand.New(least, [][2]int{{3, 0}, {3, 3}, {3, 8}, {3, 15}})
	if e != api.OK {
		t.Fatal(e)
	}
	x, e := array.Format(a)
	if e != api.OK {
		t.Fatal(e)
	}
	a.Kill(2)
	x = open(t, "one dead:", a)
	want := x.Set()
	for range 2 {
		if all, e := x.Tick(); all || e != api.Fail {
			t.Error(all, e)
		}
		isSet(t, "it can't be made ready:", x, want)
	}
	want.Seq++
	isSet(t, "opened then:", open(t, "opened then:", a), want)
}

// P13.1: of a block its rows are made from 0 on, up to one that isn't whole.
func TestTickTorn(t *testing.T) {
	for torn := range odd.Pages {
		for _, m := range []int{0, 2, odd.Chips - 1} {
			a, x := format(t, odd)
			for row := range odd.Pages {
				if e := stripe.Write(x, 6, row, pages(odd, row)...); e != api.OK {
					t.Fatal(e)
				}
			}
			spoilPage(t, a, 1, 6, torn)
			a.Kill(m)
			x = open(t, "torn:", a)
			full(t, "torn:", x)
			v := chip(t, "torn:", a, odd.Chips)
			for row := range odd.Pages {
				data, _, e := v.Read(6, row)
				if e != api.OK || row >= torn != erased(data) {
					t.Error(m, torn, row, "is erased:", erased(data), e)
				}
			}
			// It can be written from there on.
			d, o := sealed(page(odd, 1))
			if e := x.Program(m, 6, torn, d, o); e != api.OK {
				t.Error(m, torn, e)
			}
		}
	}
}

// spoilPage: a page of a chip's virtual block isn't sealed any longer; those behind it are as they were.
func spoilPage(t *testing.T, a *nand.Array, c, b, page int) {
	t.Helper()
	v, e := vol.Open(a, c)
	if e != api.OK {
		t.Fatal(c, e)
	}
	var l [][2][]byte
	for p := range a.Geo().Pages {
		data, oob, e := v.Read(b, p)
		if e != api.OK {
			t.Fatal(c, b, p, e)
		}
		if erased(data) && erased(oob) {
			break
		}
		if p == page {
			data[p] ^= 8
		}
		l = append(l, [2][]byte{data, oob})
	}
	if e := v.Erase(b); e != api.OK {
		t.Fatal(c, b, e)
	}
	for p, x := range l {
		if e := v.Program(b, p, x[0], x[1]); e != api.OK {
			t.Fatal(c, b, p, e)
		}
	}
}

// P13.1: of the blocks for what is staged the pages are those of the other one of the pair, as many as it has, also if one isn't sealed; a member without a pair has none.
func TestTickStaged(t *testing.T) {
	t.Parallel()
	for _, g := range []api.Geo{least, even, odd} {
		for which := range 2 {
			for many := range stage.Room(g) + 1 {
				a, x := format(t, g)
				for n := range many {
					if e := stage.Put(x, which, n, page(g, n)); e != api.OK {
						t.Fatal(e)
					}
				}
				if many > 1 {
					spoilPage(t, a, 0, 4+which, 0)
				}
				for m := range g.Chips {
					c := a.Copy()
					c.Kill(m)
					y := open(t, "staged:", c)
					full(t, "staged:", y)
					v, other := chip(t, "staged:", c, g.Chips), m^1
					for p := range g.Pages {
						want, beside := bytes.Repeat([]byte{255}, g.Size), bytes.Repeat([]byte{255}, api.Oob)
						if other < g.Chips {
							want, beside, _ = chip(t, "staged:", a, other).Read(4+which, p)
						}
						if d, o, e := v.Read(4+which, p); e != api.OK || !bytes.Equal(d, want) || !bytes.Equal(o, beside) {
							t.Error(g, which, many, m, p, e)
						}
					}
					for n := many; n < stage.Room(g); n++ {
						if e := stage.Put(y, which, n, page(g, n)); e != api.OK {
							t.Error(g, which, many, m, n, "can't be staged then:", e)
						}
					}
				}
			}
		}
	}
}

// P13.1: the parity that is made anew is as it was written, with its header.
func TestTickParity(t *testing.T) {
	for seg := 6; seg < 6+even.Chips; seg++ {
		for row := range even.Pages {
			a, x := format(t, even)
			for r := range row + 1 {
				if e := stripe.Write(x, seg, r, pages(even, r)...); e != api.OK {
					t.Fatal(e)
				}
			}
			c := a.Copy()
			m := geom.Parity(even, seg, row)
			c.Kill(m)
			full(t, "parity:", openAsked(t, c, m))
			alike(t, "parity:", a, c, m)
		}
	}
}

// openAsked: an array of which a member is dead, that knows it.
func openAsked(t *testing.T, a *nand.Array, m int) *array.Array {
	t.Helper()
	x := open(t, "asked:", a)
	if _, _, e := x.Read(m, 6, 0); e != api.Dead {
		t.Fatal(m, e)
	}
	return x
}

// P13.1: another member dies while one is being made anew, or is found dead then: it is lost.
func TestTickLost(t *testing.T) {
	for ticks := range even.Virtual() - 1 {
		for _, c := range []int{0, 2, 3} {
			a, x := half(t, even, 2)
			fill(t, x)
			for range ticks {
				if _, e := x.Tick(); e != api.OK {
					t.Fatal(e)
				}
			}
			if x.Set().Full() {
				continue
			}
			a.Kill(c)
			all, e := x.Tick()
			if all || e != api.Lost || !x.Lost() {
				t.Error(ticks, c, all, e, x.Lost())
			}
			lost(t, "another one died:", a, x)
		}
	}
}

// P13.1: which chips hold the set, while it is being saved: those from 0 on have it, the others the one ahead of it.
func TestSavedInOrder(t *testing.T) {
	a, x := half(t, even, 5)
	was := x.Set()
	c := a.Copy()
	y := open(t, "plain:", c)
	from := c.Ops()
	if _, e := y.Tick(); e != api.OK {
		t.Fatal(e)
	}
	to := c.Ops()
	order := []int{0, 2, 3, 4}
	for i := range 2 * len(order) {
		c := a.Copy(nand.Event{Op: to - i, Kind: nand.Crash})
		y := open(t, "cut off:", c)
		if c.Ops() != from {
			t.Fatal(c.Ops(), from)
		}
		if all, e := y.Tick(); all || e != api.Crash {
			t.Fatal(all, e)
		}
		for k, chip := range order {
			want := with(was, func(s *member.Set) {
				s.Seq++
				if len(order)-k > i/2+1 {
					s.Seq, s.Done = s.Seq+1, s.Done+1
				}
			})
			if s, ok := onChip(t, "cut off:", c, chip, int(want.Seq%2)); !ok || !sameSet(s, want) {
				t.Error(i, "chip", chip, "has", s, ok, "want", want)
			}
		}
		c.Boot()
		z := open(t, "cut off:", c)
		if s := z.Set(); s.Done != 5 && s.Done != 6 || s.Dead != 1 || !slices.Equal(s.Chips, was.Chips) {
			t.Error(i, s)
		}
	}
}

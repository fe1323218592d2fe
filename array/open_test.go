package array_test

import (
	"fmt"
	"slices"
	"testing"

	"gabion/api"
	"gabion/array"
	"gabion/geom"
	"gabion/member"
	"gabion/nand"
	"gabion/stage"
	"gabion/stripe"
	"gabion/vol"
)

// wipe: all of a chip's blocks are erased: it isn't dead, but holds nothing.
func wipe(t *testing.T, a *nand.Array, chip int) {
	t.Helper()
	for b := range a.Geo().Blocks {
		if e := a.Erase(chip, b); e != api.OK {
			t.Fatal(chip, b, e)
		}
	}
}

// ready: a chip's blocks are made ready, and nothing stands in them.
func ready(t *testing.T, a *nand.Array, chip int) {
	t.Helper()
	if _, e := vol.Format(a, chip); e != api.OK {
		t.Fatal(chip, e)
	}
}

// lay: a page stands in a chip's virtual block, alone.
func lay(t *testing.T, a *nand.Array, chip, b int, data, oob []byte) {
	t.Helper()
	v, e := vol.Open(a, chip)
	if e == api.OK {
		e = v.Erase(b)
	}
	if e == api.OK {
		e = v.Program(b, 0, data, oob)
	}
	if e != api.OK {
		t.Fatal(chip, b, e)
	}
}

// laySet: a set stands on a chip, where its number says.
func laySet(t *testing.T, a *nand.Array, chip int, s member.Set) {
	t.Helper()
	data, oob, e := s.Page(a.Geo())
	if e != api.OK {
		t.Fatal(chip, s, e)
	}
	lay(t, a, chip, int(s.Seq%2), data, oob)
}

// spoil: what stands in a chip's virtual block 0 or 1 isn't sealed any longer.
func spoil(t *testing.T, a *nand.Array, chip, b int) {
	t.Helper()
	lay(t, a, chip, b, sample(a.Geo().Size, 7), sample(api.Oob, 8))
}

// P13.1: an array is opened as it was, and its set saved with the next number, each time in the other block.
func TestOpen(t *testing.T) {
	t.Parallel()
	for _, g := range shapes {
		a, x := format(t, g)
		last := g.Virtual() - 1
		for i, seg := range []int{2, 6, last} {
			if e := stripe.Write(x, seg, 0, pages(g, i)...); e != api.OK {
				t.Fatal(g, e)
			}
		}
		if e := stage.Put(x, 1, 0, page(g, 99)); e != api.OK {
			t.Fatal(g, e)
		}
		for seq := uint32(3); seq < 6; seq++ {
			x := open(t, "opened:", a)
			want := first(g, seq)
			isSet(t, "opened:", x, want)
			saved(t, "opened:", a, want, want.Chips...)
			if x.Geo() != g || x.Lost() || x.Ahead() != -1 {
				t.Error(g, x.Geo(), x.Lost(), x.Ahead())
			}
			for i, seg := range []int{2, 6, last} {
				reads(t, "opened:", x, seg, 0, pages(g, i))
			}
			if l, e := stage.All(x, 1); e != api.OK || len(l) != 1 || !same(l[0], page(g, 99)) {
				t.Error(g, len(l), e)
			}
		}
	}
}

// P13.1: what isn't an array.
func TestOpenRefuses(t *testing.T) {
	blank := fresh(t, least)
	empty := fresh(t, least)
	for c := range 4 {
		ready(t, empty, c)
	}
	garbage := fresh(t, least)
	for c := range 4 {
		for b := range least.Blocks {
			garbage.Program(c, b, 0, sample(256, 1), sample(64, uint32(b)))
		}
	}
	another := empty.Copy()
	for c := range 4 {
		for b := range 2 {
			data, oob := sealed(page(least, c))
			lay(t, another, c, b, data, oob)
		}
	}
	off, _ := format(t, least)
	off = off.Copy(nand.Event{Op: 1, Kind: nand.Crash})
	off.Erase(0, 15)
	all, _ := format(t, least)
	for c := range 4 {
		all.Kill(c)
	}
	spoilt, _ := format(t, least)
	open(t, "spoilt:", spoilt)
	for c := range 3 {
		for b := range 2 {
			spoil(t, spoilt, c, b)
		}
	}
	for _, x := range []struct {
		what string
		a    *nand.Array
		want api.Errno
	}{
		{"nil", nil, api.Nil}, {"no chips", &nand.Array{}, api.Form}, {"erased chips", blank, api.Form}, {"chips without a set", empty, api.Form},
		{"garbage", garbage, api.Form}, {"other pages", another, api.Form}, {"no power", off, api.Crash}, {"all dead", all, api.Form}, {"all spoilt", spoilt, api.Form},
	} {
		refused(t, x.what, x.a, x.want)
	}
}

// P13.1: sets that may not be, and such of another shape, are none.
func TestOpenOtherSets(t *testing.T) {
	good := first(least, 8)
	for what, g := range map[string]api.Geo{"more pages": {Chips: 3, Blocks: 16, Pages: 5, Size: 256}, "more blocks": {Chips: 3, Blocks: 17, Pages: 4, Size: 256}, "more members": {Chips: 4, Blocks: 16, Pages: 4, Size: 256}} {
		a, _ := format(t, least)
		s := member.First(g)
		s.Seq = 9
		data, oob, e := s.Page(g)
		if e != api.OK {
			t.Fatal(e)
		}
		for c := range 3 {
			lay(t, a, c, 1, data, oob)
			spoil(t, a, c, 0)
		}
		refused(t, what, a, api.Form)
		laySet(t, a, 2, good)
		isSet(t, what, open(t, what, a), with(good, func(s *member.Set) { s.Seq++ }))
	}
}

// P13.1: of all sets on all chips the newest is taken, in whichever block and on whichever chip it stands, of both blocks' the newer one; one that is spoilt is none.
func TestOpenNewest(t *testing.T) {
	// The number of the set in block 0 and in block 1 of each chip; 0: it is spoilt.
	for _, x := range [][4][2]uint32{
		{{2, 0}, {0, 0}, {0, 0}, {0, 0}}, {{0, 0}, {0, 0}, {2, 0}, {0, 0}}, {{0, 0}, {0, 0}, {0, 0}, {0, 3}},
		{{2, 3}, {2, 0}, {2, 0}, {0, 0}}, {{4, 3}, {2, 3}, {2, 3}, {2, 1}}, {{2, 1}, {2, 3}, {4, 3}, {2, 3}},
		{{2, 1}, {2, 1}, {2, 1}, {2, 3}}, {{2, 1}, {2, 1}, {2, 1}, {4, 3}}, {{8, 7}, {0, 7}, {8, 0}, {0, 0}}, {{0, 7}, {0, 7}, {6, 7}, {0, 0}},
		{{0, 1 << 31}, {2, 1<<31 + 1}, {1<<31 - 2, 5}, {6, 7}},
	} {
		a, _ := format(t, least)
		ready(t, a, 3)
		newest := uint32(0)
		for c, l := range x {
			for b, seq := range l {
				if seq == 0 {
					spoil(t, a, c, b)
					continue
				}
				// Each number has members of its own, so that it is seen which set was taken.
				data, oob, e := turned(seq).Page(least)
				if e != api.OK {
					t.Fatal(e)
				}
				lay(t, a, c, b, data, oob)
				newest = max(newest, seq)
			}
		}
		want := turned(newest)
		want.Seq++
		y := open(t, fmt.Sprint(x), a)
		isSet(t, fmt.Sprint(x), y, want)
		saved(t, fmt.Sprint(x), a, want, 0, 1, 2, 3)
	}
}

// P13.1: sets stand in blocks 0 and 1, in their first page; elsewhere they are none.
func TestOpenSetsElsewhere(t *testing.T) {
	a, _ := format(t, least)
	data, oob, e := turned(8).Page(least)
	if e != api.OK {
		t.Fatal(e)
	}
	for c := range 3 {
		v, e := vol.Open(a, c)
		if e != api.OK {
			t.Fatal(e)
		}
		for _, at := range [][2]int{{0, 1}, {2, 0}, {4, 0}, {10, 0}} {
			if e := v.Program(at[0], at[1], data, oob); e != api.OK {
				t.Fatal(at, e)
			}
		}
	}
	isSet(t, "others elsewhere:", open(t, "others elsewhere:", a), first(least, 3))
}

// turned: a set of the smallest shape with a number: which chip is which member hangs on it.
func turned(seq uint32) member.Set {
	s := member.Set{Seq: seq, Dead: none}
	for i := range 3 {
		s.Chips = append(s.Chips, (i+int(seq))%4)
	}
	s.Spare = (3 + int(seq)) % 4
	return s
}

// P13.1: a member is read on the chip that the set says.
func TestOpenTurned(t *testing.T) {
	a, _ := format(t, least)
	ready(t, a, 3)
	s := turned(7)
	laySet(t, a, 1, s)
	x := open(t, "turned:", a)
	for m, c := range s.Chips {
		data, oob := sealed(page(least, m))
		if e := x.Program(m, 6, 0, data, oob); e != api.OK {
			t.Error(m, e)
		}
		if d, _, e := chip(t, "turned:", a, c).Read(6, 0); e != api.OK || !slices.Equal(d, data) {
			t.Error("member", m, "isn't on chip", c, e)
		}
	}
	a.Kill(s.Chips[2])
	y := open(t, "turned:", a)
	isSet(t, "turned, one dead:", y, with(s, func(s *member.Set) { s.Seq, s.Dead = 9, 2 }))
}

// P13.1: members whose chip is dead, or holds no table, are dead; if two are it is lost.
func TestOpenDeadMembers(t *testing.T) {
	t.Parallel()
	for _, g := range shapes {
		for _, m := range []int{0, 1, g.Chips - 1} {
			a, x := format(t, g)
			l := pages(g, m)
			if e := stripe.Write(x, 6, 0, l...); e != api.OK {
				t.Fatal(e)
			}
			gone := a.Copy()
			gone.Kill(m)
			empty := a.Copy()
			wipe(t, empty, m)
			for what, a := range map[string]*nand.Array{"dead": gone, "empty": empty} {
				x := open(t, what, a)
				want := with(first(g, 3), func(s *member.Set) { s.Dead = m })
				isSet(t, what, x, want)
				if x.Ahead() != m || x.Lost() {
					t.Error(g, m, what, x.Ahead(), x.Lost())
				}
				reads(t, what, x, 6, 0, l)
				others := slices.DeleteFunc(x.Set().Chips, func(c int) bool { return c == m })
				saved(t, what, a, want, others...)
				again := open(t, what, a)
				isSet(t, what, again, with(want, func(s *member.Set) { s.Seq = 4 }))
				two := a.Copy()
				two.Kill((m + 1) % g.Chips)
				refused(t, what+" and another dead", two, api.Lost)
				two = a.Copy()
				wipe(t, two, (m+2)%g.Chips)
				refused(t, what+" and another empty", two, api.Lost)
			}
		}
	}
}

// P13.1: a chip in reserve that is dead is none; one that holds nothing is in reserve all the same.
func TestOpenReserve(t *testing.T) {
	a, _ := format(t, even)
	empty := a.Copy()
	isSet(t, "empty:", open(t, "empty:", empty), first(even, 3))
	a.Kill(even.Chips)
	x := open(t, "dead:", a)
	want := with(first(even, 3), func(s *member.Set) { s.Spare = none })
	isSet(t, "dead:", x, want)
	if all, e := x.Tick(); !all || e != api.OK {
		t.Error("all members are there:", all, e)
	}
	a.Kill(2)
	x = open(t, "dead, and a member:", a)
	want.Seq, want.Dead = 4, 2
	isSet(t, "dead, and a member:", x, want)
	if all, e := x.Tick(); all || e != api.State {
		t.Error(all, e)
	}
}

// P13.1: a chip in reserve on which blocks were made anew: as many are, if it is there; none, if it isn't.
func TestOpenHalf(t *testing.T) {
	for done := 2; done < even.Virtual(); done++ {
		a, x := half(t, even, done)
		want := x.Set()
		if want.Done != done || want.Seq != uint32(done+1) {
			t.Fatal(want)
		}
		want.Seq++
		all := a.Copy()
		isSet(t, "there:", open(t, "there:", all), want)
		saved(t, "there:", all, want, 0, 2, 3, 4)
		dead := a.Copy()
		dead.Kill(even.Chips)
		isSet(t, "dead:", open(t, "dead:", dead), with(want, func(s *member.Set) { s.Spare, s.Done = none, 0 }))
		empty := a.Copy()
		wipe(t, empty, even.Chips)
		y := open(t, "empty:", empty)
		isSet(t, "empty:", y, with(want, func(s *member.Set) { s.Done = 0 }))
		if all, e := y.Tick(); all || e != api.OK || y.Set().Done != geom.Points {
			t.Error(all, e, y.Set())
		}
		two := a.Copy()
		two.Kill(0)
		refused(t, "two dead:", two, api.Lost)
	}
}

// P13.1: a member that the set says is dead is so, also if its chip is there; a set is saved on all that are.
func TestOpenDeadThatIsThere(t *testing.T) {
	a, _ := format(t, least)
	s := with(first(least, 7), func(s *member.Set) { s.Dead, s.Spare = 2, none })
	laySet(t, a, 1, s)
	x := open(t, "said to be dead:", a)
	s.Seq = 8
	isSet(t, "said to be dead:", x, s)
	if _, _, e := x.Read(2, 6, 0); e != api.Dead {
		t.Error(e)
	}
	saved(t, "said to be dead:", a, s, 0, 1, 2)
	a.Kill(2)
	isSet(t, "dead:", open(t, "dead:", a), with(s, func(s *member.Set) { s.Seq = 9 }))
	a.Kill(0)
	refused(t, "another one, too:", a, api.Lost)
}

// P1 (rule 6): sets that no call lays, but that may be: as many blocks made anew as no Tick leaves.
func TestOpenOtherDone(t *testing.T) {
	for _, done := range []int{1, least.Virtual()} {
		a, _ := format(t, least)
		ready(t, a, 3)
		a.Kill(1)
		laySet(t, a, 0, with(first(least, 8), func(s *member.Set) { s.Dead, s.Done = 1, done }))
		x := open(t, "another count:", a)
		if s := x.Set(); s.Done != done {
			t.Error(done, s)
		}
		if done == 1 {
			full(t, "another count:", x)
			want := with(x.Set(), func(s *member.Set) { s.Seq++ })
			isSet(t, "another count:", open(t, "another count:", a), want)
			continue
		}
		// There is no such block.
		if all, e := x.Tick(); all || e != api.Range {
			t.Error(done, all, e)
		}
	}
}

// P13.1: a chip that is there, but neither a member nor in reserve, gets the set, too; it dies, at any operation, and nothing comes of it.
func TestOpenChipOfNobody(t *testing.T) {
	a, _ := format(t, least)
	ready(t, a, 3)
	s := with(first(least, 6), func(s *member.Set) { s.Spare = none })
	laySet(t, a, 3, s)
	c := a.Copy()
	s.Seq++
	isSet(t, "nobody's:", open(t, "nobody's:", c), s)
	saved(t, "nobody's:", c, s, 0, 1, 2, 3)
	for op := 1; op <= c.Ops(); op++ {
		laySet(t, a, 0, with(s, func(s *member.Set) { s.Seq = 6 }))
		c := a.Copy(nand.Event{Op: op, Kind: nand.Die, Chip: 3})
		x := open(t, "nobody's dies:", c)
		isSet(t, "nobody's dies:", x, s)
		if x.Ahead() != -1 || x.Lost() {
			t.Error(op, x.Ahead(), x.Lost())
		}
	}
}

// P13.1, P13.3: a chip dies at each operation while an array is opened: it is dead, or will be, and nothing else is to be seen of it.
func TestOpenChipDies(t *testing.T) {
	t.Parallel()
	for _, g := range []api.Geo{least, even} {
		a, x := format(t, g)
		l := pages(g, 1)
		if e := stripe.Write(x, 6, 0, l...); e != api.OK {
			t.Fatal(e)
		}
		c := a.Copy()
		open(t, "plain:", c)
		for op := 1; op <= c.Ops(); op++ {
			for dies := range g.Chips + 1 {
				what := fmt.Sprint("chip ", dies, " dies at ", op, ":")
				c := a.Copy(nand.Event{Op: op, Kind: nand.Die, Chip: dies})
				x := open(t, what, c)
				reads(t, what, x, 6, 0, l)
				y := open(t, what, c)
				want := with(first(g, 4), func(s *member.Set) {
					if dies == g.Chips {
						s.Spare = none
					} else {
						s.Dead = dies
					}
				})
				isSet(t, what, y, want)
				reads(t, what, y, 6, 0, l)
			}
		}
	}
}

// P13.1: likewise, where one is dead already, or blocks were made anew on the chip in reserve.
func TestOpenSecondChipDies(t *testing.T) {
	t.Parallel()
	a, x := half(t, even, 8)
	l := pages(even, 1)
	if e := stripe.Write(x, 6, 0, l...); e != api.OK {
		t.Fatal(e)
	}
	c := a.Copy()
	open(t, "plain:", c)
	for op := 1; op <= c.Ops(); op++ {
		for dies := range even.Chips + 1 {
			what := fmt.Sprint("chip ", dies, " dies at ", op, ":")
			c := a.Copy(nand.Event{Op: op, Kind: nand.Die, Chip: dies})
			x, e := array.Open(c)
			switch {
			case dies == 1: // it was dead already
				if e != api.OK || x.Set().Done != 8 {
					t.Error(what, e)
				}
			case dies == even.Chips:
				if e != api.OK {
					t.Fatal(what, e)
				}
				reads(t, what, x, 6, 0, l)
				isSet(t, what, open(t, what, c), with(first(even, 11), func(s *member.Set) { s.Dead, s.Spare = 1, none }))
			case e == api.OK: // it was asked for nothing behind
				if _, _, e := x.Read(dies, 6, 0); e != api.Lost {
					t.Error(what, e)
				}
				lost(t, what, c, x)
			default:
				if e != api.Lost || x != nil {
					t.Error(what, x, e)
				}
				refused(t, what, c, api.Lost)
			}
		}
	}
}

package member_test

import (
	"math"
	"slices"
	"testing"

	"gabion/api"
	"gabion/member"
)

// none is no member, and no chip.
const none = 255

// least and greatest are the smallest and the greatest shape; others lie between, with an odd and with an even count of members.
var (
	least    = api.Geo{Chips: api.MinChips, Blocks: api.MinBlocks, Pages: api.MinPages, Size: api.MinSize}
	greatest = api.Geo{Chips: api.MaxChips, Blocks: api.MaxBlocks, Pages: api.MaxPages, Size: api.MaxSize}
	shapes   = []api.Geo{least, {Chips: 4, Blocks: 17, Pages: 5, Size: 320}, {Chips: 5, Blocks: 24, Pages: 8, Size: 256}, greatest}
)

// noShapes: shapes that may not be.
var noShapes = []api.Geo{
	{},
	{Chips: 0, Blocks: 16, Pages: 4, Size: 256},
	{Chips: -1, Blocks: 16, Pages: 4, Size: 256},
	{Chips: 2, Blocks: 16, Pages: 4, Size: 256},
	{Chips: 17, Blocks: 16, Pages: 4, Size: 256},
	{Chips: 300, Blocks: 16, Pages: 4, Size: 256},
	{Chips: 3, Blocks: 15, Pages: 4, Size: 256},
	{Chips: 3, Blocks: 65, Pages: 4, Size: 256},
	{Chips: 3, Blocks: 16, Pages: 3, Size: 256},
	{Chips: 3, Blocks: 16, Pages: 33, Size: 256},
	{Chips: 3, Blocks: 16, Pages: 4, Size: 0},
	{Chips: 3, Blocks: 16, Pages: 4, Size: 257},
	{Chips: 3, Blocks: 16, Pages: 4, Size: 1088},
	{Chips: 3, Blocks: 16 + 1<<16, Pages: 4 + 1<<16, Size: 256 + 1<<16},
	{Chips: -1, Blocks: -1, Pages: -1, Size: -1},
	{Chips: math.MinInt, Blocks: math.MinInt, Pages: math.MinInt, Size: math.MinInt},
	{Chips: math.MaxInt, Blocks: math.MaxInt, Pages: math.MaxInt, Size: math.MaxInt},
}

// same: are two sets one?
func same(a, b member.Set) bool {
	return a.Seq == b.Seq && slices.Equal(a.Chips, b.Chips) && a.Spare == b.Spare && a.Dead == b.Dead && a.Done == b.Done
}

// zero: is a set nothing?
func zero(s member.Set) bool { return same(s, member.Set{}) }

// with: a set that is changed, and shares nothing with the one it was.
func with(s member.Set, change func(s *member.Set)) member.Set {
	s.Chips = slices.Clone(s.Chips)
	change(&s)
	return s
}

// rising: the numbers from 0 on.
func rising(many int) []int {
	var l []int
	for i := range many {
		l = append(l, i)
	}
	return l
}

// right: sets of a shape that may be.
func right(g api.Geo) []member.Set {
	n := g.Chips
	turned := rising(n + 1)
	slices.Reverse(turned)
	return []member.Set{
		{Seq: 1, Chips: rising(n), Spare: n, Dead: none},
		{Seq: 0, Chips: rising(n), Spare: none, Dead: none},
		{Seq: 0x04030201, Chips: rising(n), Spare: none, Dead: 0},
		{Seq: math.MaxUint32, Chips: rising(n), Spare: none, Dead: n - 1},
		{Seq: 1 << 31, Chips: turned[:n], Spare: 0, Dead: 1},
		{Seq: 7, Chips: turned[1:], Spare: n, Dead: n - 1, Done: 1},
		{Seq: 8, Chips: turned[1:], Spare: n, Dead: 0, Done: 2},
		{Seq: 9, Chips: turned[:n], Spare: 0, Dead: 2, Done: g.Virtual() - 1},
		{Seq: 10, Chips: turned[:n], Spare: 0, Dead: 2, Done: g.Virtual()},
		{Seq: 11, Chips: turned[:n], Spare: none, Dead: none},
	}
}

// wrong: sets of a shape that may not be, by what is wrong with them.
func wrong(g api.Geo) map[string]member.Set {
	n, v := g.Chips, g.Virtual()
	s := member.First(g)
	half := with(s, func(s *member.Set) { s.Dead, s.Done = 1, 3 })
	l := map[string]member.Set{
		"nothing":                       {},
		"no chips":                      with(s, func(s *member.Set) { s.Chips = nil }),
		"a chip fewer":                  with(s, func(s *member.Set) { s.Chips = s.Chips[1:] }),
		"a chip more":                   with(s, func(s *member.Set) { s.Chips, s.Spare = append(s.Chips, n), none }),
		"a chip twice":                  with(s, func(s *member.Set) { s.Chips[n-1] = 0 }),
		"a chip twice, none in reserve": with(s, func(s *member.Set) { s.Chips[0], s.Spare = n-1, none }),
		"that in reserve twice":         with(s, func(s *member.Set) { s.Spare = 0 }),
		"another one as in reserve":     with(s, func(s *member.Set) { s.Chips[n-1] = n }),
		"done, nobody dead":             with(half, func(s *member.Set) { s.Dead = none }),
		"done, none in reserve":         with(half, func(s *member.Set) { s.Spare = none }),
		"done, neither":                 with(half, func(s *member.Set) { s.Dead, s.Spare = none, none }),
		"all done, nobody dead":         with(half, func(s *member.Set) { s.Dead, s.Done = none, v }),
		"one done, none in reserve":     with(half, func(s *member.Set) { s.Spare, s.Done = none, 1 }),
		"two wrong":                     with(half, func(s *member.Set) { s.Dead, s.Chips = n, nil }),
		"two others wrong":              with(half, func(s *member.Set) { s.Done, s.Chips[0] = v+1, -1 }),
	}
	for _, x := range []int{-1, n + 1, n + 2, 254, 255, 256, math.MinInt, math.MaxInt} {
		for i := range n {
			l["chip "+string(rune('A'+i))+" isn't there: "+text(x)] = with(s, func(s *member.Set) { s.Chips[i] = x })
		}
		if x != none {
			l["none such in reserve: "+text(x)] = with(s, func(s *member.Set) { s.Spare = x })
			l["none such dead: "+text(x)] = with(s, func(s *member.Set) { s.Dead = x })
			l["none such dead, some done: "+text(x)] = with(half, func(s *member.Set) { s.Dead = x })
		}
	}
	l["the one behind the last dead"] = with(s, func(s *member.Set) { s.Dead = n })
	for _, x := range []int{-1, v + 1, v + 2, g.Blocks, 255, 256, math.MinInt, math.MaxInt} {
		l["done: "+text(x)] = with(half, func(s *member.Set) { s.Done = x })
		l["done, nobody dead: "+text(x)] = with(s, func(s *member.Set) { s.Done = x })
	}
	return l
}

// text: a number, but short.
func text(n int) string {
	switch {
	case n == math.MinInt:
		return "least"
	case n == math.MaxInt:
		return "greatest"
	case n < 0:
		return "-" + text(-n)
	case n < 10:
		return string(rune('0' + n))
	}
	return text(n/10) + text(n%10)
}

// P12.1: the set of a new array; the chapter's example.
func TestFirst(t *testing.T) {
	for _, g := range shapes {
		want := member.Set{Seq: 1, Chips: rising(g.Chips), Spare: g.Chips, Dead: none}
		if s := member.First(g); !same(s, want) || s.Check(g) != api.OK || !s.Full() {
			t.Error(g, s)
		}
	}
	if s := member.First(least); !slices.Equal(s.Chips, []int{0, 1, 2}) || s.Spare != 3 {
		t.Error("the example:", s)
	}
	if member.None != none {
		t.Error("None is", member.None)
	}
	a, b := member.First(least), member.First(least)
	a.Chips[0] = 9
	if b.Chips[0] != 0 {
		t.Error("two answers share memory")
	}
}

// P1 (rule 6): the first set of a shape that is none.
func TestFirstOfNone(t *testing.T) {
	for _, g := range noShapes {
		s := member.First(g)
		if s.Seq != 1 || s.Dead != none || s.Done != 0 || s.Spare != g.Chips || s.Check(g) != api.Range {
			t.Error(g, s.Seq, s.Dead, s.Done, s.Spare)
		}
		if g.Chips < 1000 && !slices.Equal(s.Chips, rising(g.Chips)) {
			t.Error(g, s.Chips)
		}
	}
}

// P12.1: sets that may be, and who of them is full.
func TestCheck(t *testing.T) {
	for _, g := range shapes {
		for i, s := range right(g) {
			if e := s.Check(g); e != api.OK {
				t.Error(g, i, e)
			}
			if s.Full() != (s.Dead == none) {
				t.Error(g, i, s.Dead, s.Full())
			}
			for _, none := range noShapes {
				if e := s.Check(none); e != api.Range {
					t.Error(g, i, none, e)
				}
			}
		}
		for dead := range g.Chips {
			s := with(member.First(g), func(s *member.Set) { s.Dead = dead })
			if e := s.Check(g); e != api.OK || s.Full() {
				t.Error(g, dead, e, s.Full())
			}
			for done := range g.Virtual() + 1 {
				s.Done = done
				if e := s.Check(g); e != api.OK || s.Full() {
					t.Error(g, dead, done, e)
				}
			}
		}
	}
}

// P12.1: sets that may not be; the shape's error goes ahead.
func TestCheckRefuses(t *testing.T) {
	for _, g := range shapes {
		for what, s := range wrong(g) {
			if e := s.Check(g); e != api.Form {
				t.Error(g, what, e)
			}
			for _, none := range noShapes {
				if e := s.Check(none); e != api.Range {
					t.Error(g, what, none, e)
				}
			}
		}
		for _, of := range shapes {
			if e := member.First(g).Check(of); of.Chips != g.Chips && e != api.Form {
				t.Error(g, "is a set of", of, e)
			}
		}
	}
}

// P12.1: nobody is dead only at None.
func TestFull(t *testing.T) {
	for _, dead := range []int{math.MinInt, -1, 0, 1, 16, 254, 256, math.MaxInt} {
		if (member.Set{Dead: dead}).Full() {
			t.Error(dead)
		}
	}
	if !(member.Set{Dead: none}).Full() {
		t.Error("None is full")
	}
}

// P12.1: the set with the greatest number, the first of them.
func TestNewest(t *testing.T) {
	if s, ok := member.Newest(); ok || !zero(s) {
		t.Error("of none:", s, ok)
	}
	if s, ok := member.Newest([]member.Set{}...); ok || !zero(s) {
		t.Error("of none:", s, ok)
	}
	for _, x := range []struct {
		seqs []uint32
		want int
	}{
		{[]uint32{0}, 0},
		{[]uint32{5}, 0},
		{[]uint32{1, 2}, 1},
		{[]uint32{2, 1}, 0},
		{[]uint32{0, 0, 0}, 0},
		{[]uint32{3, 7, 7, 6}, 1},
		{[]uint32{3, 6, 7, 7, 7}, 2},
		{[]uint32{1 << 31, 1<<31 - 1}, 0},
		{[]uint32{1, math.MaxUint32, 0, math.MaxUint32}, 1},
		{[]uint32{math.MaxUint32, 0}, 0},
	} {
		var l []member.Set
		for i, seq := range x.seqs {
			l = append(l, member.Set{Seq: seq, Chips: []int{i, 9}, Spare: i, Dead: i, Done: i})
		}
		s, ok := member.Newest(l...)
		if !ok || !same(s, l[x.want]) {
			t.Error(x.seqs, s, ok)
		}
		if s.Chips[0] = 77; l[x.want].Chips[0] == 77 {
			t.Error(x.seqs, "isn't new memory")
		}
		for i, seq := range x.seqs {
			if l[i].Seq != seq {
				t.Error(x.seqs, "changes what it is given")
			}
		}
	}
	if s, ok := member.Newest(member.Set{}); !ok || !zero(s) {
		t.Error("of one that is nothing:", s, ok)
	}
}

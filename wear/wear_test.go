package wear_test

import (
	"math"
	"slices"
	"testing"

	"gabion/wear"
)

// top is the greatest number of erases.
const top = math.MaxUint32

// closed, open, free: segments with so many pages that count, and so many erases.
func closed(live int, erases uint32) wear.Seg {
	return wear.Seg{Kind: wear.Closed, Live: live, Erases: erases}
}

func open(live int, erases uint32) wear.Seg {
	return wear.Seg{Kind: wear.Open, Live: live, Erases: erases}
}

func free(erases uint32) wear.Seg { return wear.Seg{Kind: wear.Free, Erases: erases} }

// other is of a kind that none has.
func other(kind, live int, erases uint32) wear.Seg {
	return wear.Seg{Kind: kind, Live: live, Erases: erases}
}

// P15.1: the numbers of the kinds, and how far erases may be apart.
func TestNumbers(t *testing.T) {
	if wear.Free != 0 || wear.Open != 1 || wear.Closed != 2 || wear.Spread != 8 {
		t.Error(wear.Free, wear.Open, wear.Closed, wear.Spread)
	}
}

// P15.1: which one is cleared.
func TestVictim(t *testing.T) {
	for _, x := range []struct {
		what string
		l    []wear.Seg
		want int
	}{
		{"none at all", nil, -1},
		{"an empty list", []wear.Seg{}, -1},
		{"none is closed", []wear.Seg{free(0), open(0, 0), free(100)}, -1},
		{"kinds that are none", []wear.Seg{other(3, 0, 0), other(-1, 0, 0), other(math.MinInt, 0, 0)}, -1},
		{"one", []wear.Seg{closed(7, 3)}, 0},
		{"one among others", []wear.Seg{free(0), open(0, 0), closed(99, 8), free(0)}, 2},
		{"the chapter's example", []wear.Seg{closed(3, 0), closed(1, 2), closed(1, 1)}, 2},
		{"the least Live is the first", []wear.Seg{closed(0, 8), closed(1, 0)}, 0},
		{"the least Live is the last", []wear.Seg{closed(2, 0), closed(1, 0), closed(0, 8)}, 2},
		{"alike in Live", []wear.Seg{closed(2, 7), closed(2, 5), closed(2, 6)}, 1},
		{"alike in Erases", []wear.Seg{closed(4, 5), closed(3, 5), closed(3, 5)}, 1},
		{"alike in both", []wear.Seg{open(2, 2), closed(2, 2), closed(2, 2)}, 1},
		{"Live below 0", []wear.Seg{closed(0, 0), closed(-1, 3), closed(math.MinInt, 5)}, 2},
		{"Live as great as can be", []wear.Seg{closed(math.MaxInt, 5), closed(math.MinInt, 6)}, 1},
		{"just Spread", []wear.Seg{closed(9, 0), closed(1, 8)}, 1},
		{"one more", []wear.Seg{closed(9, 0), closed(1, 9)}, 0},
		{"just Spread, far up", []wear.Seg{closed(9, top-8), closed(1, top)}, 1},
		{"one more, far up", []wear.Seg{closed(1, top), closed(9, top-9)}, 1},
		{"as far as can be", []wear.Seg{closed(1, top), closed(9, 0)}, 1},
		{"just Spread: the greatest is free", []wear.Seg{closed(9, 0), closed(1, 5), free(8)}, 1},
		{"one more: the greatest is free", []wear.Seg{closed(9, 0), closed(1, 5), free(9)}, 0},
		{"just Spread: the least is free", []wear.Seg{closed(9, 3), closed(1, 8), free(0)}, 1},
		{"one more: the least is free", []wear.Seg{closed(9, 3), closed(1, 9), free(0)}, 0},
		{"one more: the greatest is open", []wear.Seg{open(0, 10), closed(9, 1), closed(1, 5)}, 1},
		{"one more: the least is open", []wear.Seg{open(0, 0), closed(9, 8), closed(1, 9)}, 1},
		{"one more: both are none closed", []wear.Seg{open(0, 0), closed(9, 4), closed(1, 5), free(9)}, 1},
		{"one more: of a kind that is none", []wear.Seg{other(7, 0, 9), closed(9, 0), closed(1, 5)}, 1},
		{"beyond: alike in Erases", []wear.Seg{closed(5, 2), closed(4, 2), closed(3, 3), free(100)}, 1},
		{"beyond: alike in Live", []wear.Seg{closed(4, 3), closed(4, 2), free(100)}, 1},
		{"beyond: alike in both", []wear.Seg{free(100), closed(4, 2), closed(4, 2), closed(5, 2)}, 1},
		{"beyond: none is closed", []wear.Seg{free(100), open(0, 0)}, -1},
		{"beyond: one that is open is less", []wear.Seg{open(0, 0), free(0), closed(4, 50)}, 2},
	} {
		if got := wear.Victim(x.l); got != x.want {
			t.Error(x.what, got, "not", x.want)
		}
	}
}

// P15.1: which one is opened.
func TestNext(t *testing.T) {
	for _, x := range []struct {
		what string
		l    []wear.Seg
		want int
	}{
		{"none at all", nil, -1},
		{"an empty list", []wear.Seg{}, -1},
		{"none is free", []wear.Seg{open(0, 0), closed(0, 0), other(3, 0, 0), other(-1, 0, 0)}, -1},
		{"one", []wear.Seg{free(9)}, 0},
		{"one among others", []wear.Seg{open(0, 0), closed(0, 0), free(top)}, 2},
		{"the least is the first", []wear.Seg{free(1), free(2), free(3)}, 0},
		{"the least is the last", []wear.Seg{free(3), free(2), free(1)}, 2},
		{"several alike", []wear.Seg{free(3), closed(0, 1), free(2), free(2)}, 2},
		{"Live is nothing to it", []wear.Seg{{Kind: wear.Free, Live: 4, Erases: 2}, {Kind: wear.Free, Live: 1, Erases: 2}, {Kind: wear.Free, Erases: 3}}, 0},
		{"Erases as great as can be", []wear.Seg{free(top), free(0)}, 1},
		{"far apart", []wear.Seg{free(9), free(20), closed(0, 0)}, 0},
	} {
		if got := wear.Next(x.l); got != x.want {
			t.Error(x.what, got, "not", x.want)
		}
	}
}

// P15.1: how many are of a kind, of any number that is a kind's or not.
func TestCount(t *testing.T) {
	l := []wear.Seg{free(0), closed(0, 1), free(2), open(1, 1), free(7), closed(8, 8), other(3, 0, 0), other(-1, 0, 0)}
	for kind, want := range map[int]int{wear.Free: 3, wear.Open: 1, wear.Closed: 2, 3: 1, -1: 1, 4: 0, -2: 0, math.MaxInt: 0, math.MinInt: 0} {
		if got := wear.Count(l, kind); got != want {
			t.Error(kind, got)
		}
		if got := wear.Count(nil, kind); got != 0 {
			t.Error("of none:", kind, got)
		}
	}
}

// P15.1: closed ones of which nothing counts.
func TestDead(t *testing.T) {
	for _, x := range []struct {
		what string
		l    []wear.Seg
		want []int
	}{
		{"none at all", nil, nil},
		{"none is closed", []wear.Seg{free(0), open(0, 0), other(3, 0, 0)}, nil},
		{"all count", []wear.Seg{closed(1, 0), closed(2, 0), closed(-1, 0)}, nil},
		{"one", []wear.Seg{closed(0, 5)}, []int{0}},
		{"some", []wear.Seg{free(0), closed(0, 9), open(0, 0), closed(1, 0), closed(0, 0), closed(0, 9)}, []int{1, 4, 5}},
	} {
		if got := wear.Dead(x.l); !slices.Equal(got, x.want) {
			t.Error(x.what, got)
		}
	}
}

// better: is a cleared ahead of b, by the chapter's words?
func better(a, b wear.Seg, far bool) bool {
	if far {
		return a.Erases < b.Erases || a.Erases == b.Erases && a.Live < b.Live
	}
	return a.Live < b.Live || a.Live == b.Live && a.Erases < b.Erases
}

// rule: is this answer Victim's, by the chapter's words?
func rule(l []wear.Seg, at int) bool {
	var erases []uint32
	for _, s := range l {
		erases = append(erases, s.Erases)
	}
	far := len(l) > 0 && slices.Max(erases)-slices.Min(erases) > wear.Spread
	for i, s := range l {
		if s.Kind != wear.Closed {
			continue
		}
		if at < 0 || better(s, l[at], far) || i < at && !better(l[at], s, far) {
			return false
		}
	}
	return at < 0 || l[at].Kind == wear.Closed
}

// P15.1: the words of the chapter, of many lists.
func TestVictimOfMany(t *testing.T) {
	seed := uint32(1)
	next := func(n uint32) uint32 {
		seed = seed*1664525 + 1013904223
		return seed >> 16 % n
	}
	for range 20000 {
		l := make([]wear.Seg, next(7))
		for i := range l {
			l[i] = wear.Seg{Kind: int(next(4)), Live: int(next(4)), Erases: 100 + next(6)*next(3)}
		}
		kept := slices.Clone(l)
		if at := wear.Victim(l); !rule(l, at) {
			t.Fatal(l, at)
		}
		if !slices.Equal(l, kept) {
			t.Fatal("the list is changed")
		}
	}
}

// P1 (rules 4, 5): lists aren't changed, nor kept; answers are new memory, and come again.
func TestNewMemory(t *testing.T) {
	all := []wear.Seg{closed(0, 3), free(2), closed(0, 1), free(1), open(4, 9), closed(1, 0)}
	l := all[:4]
	kept := slices.Clone(all)
	for range 2 {
		if v, n, c := wear.Victim(l), wear.Next(l), wear.Count(l, wear.Closed); v != 2 || n != 3 || c != 2 {
			t.Error(v, n, c)
		}
		d := wear.Dead(l)
		if !slices.Equal(d, []int{0, 2}) {
			t.Error(d)
		}
		for i := range d[:cap(d)] {
			d[:cap(d)][i] = 77
		}
	}
	if !slices.Equal(all, kept) {
		t.Error("a list is changed")
	}
}

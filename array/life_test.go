package array_test

import (
	"fmt"
	"os"
	"runtime/debug"
	"slices"
	"testing"

	"gabion/api"
	"gabion/array"
	"gabion/nand"
	"gabion/stage"
	"gabion/stripe"
)

// The lives below leave much behind, and little of it at once: it needn't be collected often.
func TestMain(m *testing.M) {
	debug.SetGCPercent(800)
	os.Exit(m.Run())
}

// step is what is done to an array: a stripe is written as the next row of a segment, a page is staged, a block is erased, or it ticks.
type step struct {
	do byte // 's', 'p', 'e', 't'
	at int  // the segment; which of both blocks; the block
}

// steps is what the tests below do: blocks are written, erased and written again, ahead of a dead member's being made anew, while it is, and behind it.
func steps() []step {
	l := []step{{'s', 2}, {'s', 6}, {'s', 6}, {'p', 0}, {'p', 0}, {'p', 1}, {'s', 7}, {'s', 10}, {'e', 7}, {'s', 7}}
	for _, x := range [][]step{
		{}, // that in reserve is made ready
		{{'s', 2}, {'s', 3}, {'p', 0}},
		{{'s', 2}, {'s', 3}},
		{{'e', 2}, {'s', 2}, {'p', 1}},
		{{'p', 0}, {'p', 1}},
		{{'p', 0}, {'e', 5}, {'p', 1}},
		{{'s', 6}, {'s', 7}},
		{{'e', 6}, {'s', 6}, {'s', 6}, {'e', 10}, {'s', 10}},
		{{'s', 10}, {'e', 9}, {'s', 9}, {'e', 4}, {'p', 0}},
	} {
		l = append(l, step{do: 't'})
		l = append(l, x...)
	}
	return append(l, step{do: 't'}, step{'s', 10}, step{'p', 0}, step{'e', 3}, step{'s', 3})
}

// life is an array to which steps are done, and what it must hold.
type life struct {
	t      *testing.T
	what   string
	a      *nand.Array
	x      *array.Array
	rows   map[int][][]stripe.Page // of each segment
	staged [2][]stripe.Page
	maybe  map[int][]stripe.Page // blocks that were just being changed, when the power went: what may stand behind what is there
	erase  map[int]bool          // those of them that were just being erased: what stands there nobody knows
	seed   int
}

// begin: an array on chips as they are; what a crash cuts off is formatted again.
func begin(t *testing.T, what string, a *nand.Array) *life {
	t.Helper()
	r := &life{t: t, what: what, a: a, rows: map[int][][]stripe.Page{}, maybe: map[int][]stripe.Page{}, erase: map[int]bool{}}
	for {
		x, e := array.Format(a)
		if e == api.OK {
			r.x = x
			return r
		}
		if e != api.Crash {
			t.Fatal(what, "Format:", e)
		}
		a.Boot()
	}
}

// block: the virtual block that a step changes.
func (s step) block() int {
	if s.do == 'p' {
		return 4 + s.at
	}
	return s.at
}

// do does a step: what the power cuts off isn't done again. The error, if it is another one.
func (r *life) do(s step) api.Errno {
	r.t.Helper()
	b := s.block()
	// Behind what a crash left nothing can be programmed, till it is erased; nor where there is no room.
	_, cut := r.maybe[b]
	if s.do != 't' && s.do != 'e' && (cut || r.erase[b]) || s.do == 'p' && len(r.staged[s.at]) == stage.Room(r.a.Geo()) {
		return api.OK
	}
	e := r.try(s)
	if e != api.Crash {
		return e
	}
	r.boot()
	return api.OK
}

// try does a step, and notes what must be there then.
func (r *life) try(s step) (e api.Errno) {
	r.seed++
	g, b := r.a.Geo(), s.block()
	var l []stripe.Page
	switch s.do {
	case 's':
		l = pages(g, r.seed)
		if e = stripe.Write(r.x, b, len(r.rows[b]), l...); e == api.OK {
			r.rows[b] = append(r.rows[b], l)
		}
	case 'p':
		l = []stripe.Page{page(g, r.seed)}
		if e = stage.Put(r.x, s.at, len(r.staged[s.at]), l[0]); e == api.OK {
			r.staged[s.at] = append(r.staged[s.at], l[0])
		}
	case 'e':
		e = r.x.Erase(b)
		r.forget(b)
		r.erase[b] = e == api.Crash
	case 't':
		_, e = r.x.Tick()
	}
	if e == api.Crash && l != nil {
		r.maybe[b] = l
	}
	return e
}

// forget: nothing stands in a block any longer.
func (r *life) forget(b int) {
	delete(r.rows, b)
	delete(r.maybe, b)
	if b == 4 || b == 5 {
		r.staged[b-4] = nil
	}
}

// boot: the power comes again, and the array is opened, as often as it takes.
func (r *life) boot() {
	r.t.Helper()
	was := r.x.Set()
	for {
		r.a.Boot()
		x, e := array.Open(r.a)
		if e == api.OK {
			r.x = x
			break
		}
		if e != api.Crash {
			r.t.Fatal(r.what, "Open:", e)
		}
	}
	s := r.x.Set()
	if d := was.Done - s.Done; s.Dead == was.Dead && d != 0 && d != 1 && !(was.Done == 2 && s.Done == 0) {
		r.t.Error(r.what, "opened as", s, "was", was)
	}
	r.beside()
}

// beside checks what is there on a copy, which takes no operation.
func (r *life) beside() {
	r.t.Helper()
	r.check(r.t, r.what, open(r.t, r.what, r.a.Copy()))
}

// check: is all there that must be, and nothing else?
func (r *life) check(t *testing.T, what string, x *array.Array) {
	t.Helper()
	g := r.a.Geo()
	for _, seg := range []int{2, 3, 6, 7, 8, 9, 10} {
		if r.erase[seg] {
			continue
		}
		for row := range g.Pages {
			got, is, e := stripe.Row(x, seg, row)
			maybe, cut := r.maybe[seg]
			switch l := r.rows[seg]; {
			case row < len(l):
				reads(t, what, x, seg, row, l[row])
			case e != api.OK:
				t.Error(what, seg, row, e)
			case cut && row == len(l) && is != stripe.Blank:
				if is == stripe.Whole && !slices.EqualFunc(got, maybe, same) {
					t.Error(what, seg, row, "is another stripe")
				}
			case is != stripe.Blank:
				t.Error(what, seg, row, "is", is)
			}
		}
	}
	for which, want := range r.staged {
		got, e := stage.All(x, which)
		if maybe := r.maybe[4+which]; maybe != nil && len(got) > len(want) {
			want = slices.Concat(want, maybe)
		}
		if !r.erase[4+which] && (e != api.OK || !slices.EqualFunc(got, want, same)) {
			t.Error(what, "staged in", which, len(got), "of", len(want), e)
		}
	}
}

// all does all steps; one that answers an error ends it.
func (r *life) all() api.Errno {
	r.t.Helper()
	for _, s := range steps() {
		if e := r.do(s); e != api.OK {
			return e
		}
	}
	r.beside()
	return api.OK
}

// whole: all members are made anew, if one is dead; then any other one may be. What hasn't come by then doesn't come.
func (r *life) whole() {
	r.t.Helper()
	r.a = r.a.Copy()
	r.x = open(r.t, r.what, r.a)
	r.check(r.t, r.what, r.x)
	full(r.t, r.what, r.x)
	r.check(r.t, r.what, r.x)
	survives(r.t, r.what, r.a.Copy(), r.check)
}

// plain is how many operations a life takes, and after how many of them it was formatted; killed: which chip is dead then (below 0: none is).
func plain(t *testing.T, g api.Geo, killed int) (formatted, all int) {
	t.Helper()
	r := begin(t, "plain:", fresh(t, g))
	formatted = r.a.Ops()
	r.a.Kill(killed)
	if e := r.all(); e != api.OK {
		t.Fatal(e)
	}
	return formatted, r.a.Ops()
}

// left: what a crash, or a failure, may leave: noughts, what looks erased, something else.
func left(n int) []byte {
	return [][]byte{nil, {255}, {1, 2, 3}}[n%3]
}

// P13.2, P4: any one chip dies, at any operation, of Format, too: nothing is to be seen of it; it is made anew; then any other one may die.
func TestChipDies(t *testing.T) {
	for _, g := range []api.Geo{least, even} {
		_, n := plain(t, g, -1)
		for dies := range g.Chips + 1 {
			t.Run(fmt.Sprint(g.Chips, " ", dies), func(t *testing.T) {
				t.Parallel()
				for op := 1; op <= n; op++ {
					what := fmt.Sprint("chip ", dies, " of ", g.Chips, " dies at ", op, ":")
					r := begin(t, what, fresh(t, g, nand.Event{Op: op, Kind: nand.Die, Chip: dies}))
					if e := r.all(); e != api.OK || r.x.Lost() {
						t.Fatal(what, e)
					}
					r.check(t, what, r.x)
					if (op+dies)%3 == 0 {
						r.whole()
					}
				}
			})
		}
	}
}

// P13.2: one is dead, and is being made anew; another chip dies, at any operation: of a member all is Lost, up to where all are there again; that in reserve isn't missed.
func TestSecondChipDies(t *testing.T) {
	t.Parallel()
	from, to := plain(t, even, 1)
	a := fresh(t, even)
	begin(t, "plain:", a)
	for op := from + 1; op <= to; op++ {
		for _, dies := range []int{0, 3, even.Chips} {
			what := fmt.Sprint("chip 1 is dead, ", dies, " dies at ", op, ":")
			r := begin(t, what, fresh(t, even, nand.Event{Op: op, Kind: nand.Die, Chip: dies}))
			r.a.Kill(1)
			told := false
			for _, s := range steps() {
				e := r.do(s)
				told = told || r.x.Set().Full() && r.x.Set().Chips[1] == even.Chips
				switch {
				case e == api.OK:
				case e == api.Lost && !told && dies < even.Chips:
				case (e == api.Dead || e == api.State) && s.do == 't' && !told && dies == even.Chips:
				case e == api.State && s.do == 't' && told: // none is in reserve any longer
				default:
					t.Fatal(what, s, e)
				}
				if e == api.Lost {
					break
				}
			}
			if r.x.Lost() {
				lost(t, what, r.a, r.x)
				continue
			}
			r.check(t, what, r.x)
			r.check(t, what, open(t, what, r.a))
		}
	}
}

// P13.3, P3: the power goes at any operation, and again while it is opened or soon behind: all is there that was answered; also if any one chip is dead then. All goes on.
func TestCrashes(t *testing.T) {
	for _, g := range []api.Geo{least, even} {
		_, n := plain(t, g, -1)
		opened := 64*(g.Chips+1) + 8
		for part := range 4 {
			t.Run(fmt.Sprint(g.Chips, " ", part), func(t *testing.T) {
				t.Parallel()
				for op := 1 + part; op <= n; op += 4 {
					for i, d := range []int{0, 1 + op%40, opened - 4 + op%6} {
						events := []nand.Event{{Op: op, Kind: nand.Crash, Left: left(op + i)}, {Op: op + d, Kind: nand.Crash, Left: left(i)}}
						what := fmt.Sprint("a crash at ", op, " and ", op+d, " of ", g.Chips, ":")
						r := begin(t, what, fresh(t, g, events...))
						if e := r.all(); e != api.OK {
							t.Fatal(what, e)
						}
						if d == 0 && op%3 == 0 {
							r.whole()
						}
					}
				}
			})
		}
	}
}

// P13.3, P4: likewise, with one chip dead, that is being made anew; behind it any other one may die.
func TestCrashesWithOneDead(t *testing.T) {
	for _, g := range []api.Geo{least, even} {
		for dead := range g.Chips {
			t.Run(fmt.Sprint(g.Chips, " ", dead), func(t *testing.T) {
				t.Parallel()
				from, n := plain(t, g, dead)
				for op := from + 1; op <= n; op++ {
					for i, d := range []int{0, []int{1, 30, 64*g.Chips + 7}[op%3]} {
						events := []nand.Event{{Op: op, Kind: nand.Crash, Left: left(op + i)}, {Op: op + d, Kind: nand.Crash, Left: left(i)}}
						what := fmt.Sprint("chip ", dead, " of ", g.Chips, " is dead, a crash at ", op, " and ", op+d, ":")
						r := begin(t, what, fresh(t, g, events...))
						r.a.Kill(dead)
						if e := r.all(); e != api.OK {
							t.Fatal(what, e)
						}
						if d == 0 && (op+dead)%2 == 0 {
							r.whole()
						}
					}
				}
			})
		}
	}
}

// P5: blocks fail, at any operation, and are bad from the beginning, on all chips: nothing is to be seen of it, with or without a member that is dead.
func TestBlocksFail(t *testing.T) {
	for dead := -1; dead < even.Chips; dead++ {
		t.Run(fmt.Sprint(dead), func(t *testing.T) {
			t.Parallel()
			_, n := plain(t, even, dead)
			for op := 1; op <= n; op++ {
				var bad [][2]int
				for c := range even.Chips + 1 {
					bad = append(bad, [2]int{c, (op + 5*c) % even.Blocks})
				}
				what := fmt.Sprint("a block fails at ", op, " chip ", dead, " is dead:")
				a, e := nand.New(even, bad, nand.Event{Op: op, Kind: nand.Fail, Left: left(op)}, nand.Event{Op: op + 1 + op%3, Kind: nand.Fail, Left: left(op + 1)})
				if e != api.OK {
					t.Fatal(e)
				}
				r := begin(t, what, a)
				a.Kill(dead)
				if e := r.all(); e != api.OK {
					t.Fatal(what, e)
				}
				r.check(t, what, r.x)
				if op%4 == 0 {
					r.whole()
				}
			}
		})
	}
}

// P13.1: what is done with blocks that fail is seen of it: the set is saved, and opened again, in the middle of which a block fails, and the power goes behind.
func TestBlocksFailWhileSaved(t *testing.T) {
	t.Parallel()
	a, _ := format(t, even)
	c := a.Copy()
	open(t, "plain:", c)
	n := c.Ops()
	for op := n - 2*even.Chips + 1; op <= n; op++ {
		for d := range 8 {
			c := a.Copy(nand.Event{Op: op, Kind: nand.Fail, Left: left(op)}, nand.Event{Op: op + d, Kind: nand.Crash, Left: left(d)})
			x, e := array.Open(c)
			if d == 0 && e == api.OK {
				isSet(t, "a block fails:", x, first(even, 3))
			}
			if e != api.OK && e != api.Crash {
				t.Fatal(op, d, e)
			}
			c = c.Copy() // what hasn't come by then doesn't come
			c.Boot()
			y := open(t, "a crash behind:", c)
			if s := y.Set(); s.Seq != 3 && s.Seq != 4 || !s.Full() || s.Spare != even.Chips {
				t.Error(op, d, s)
			}
			for m := range even.Chips {
				k := c.Copy()
				k.Kill(m)
				if s := open(t, "one dead then:", k).Set(); s.Dead != m || s.Seq < 4 {
					t.Error(op, d, m, s)
				}
			}
		}
	}
}

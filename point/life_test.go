package point_test

import (
	"fmt"
	"os"
	"runtime/debug"
	"slices"
	"testing"

	"gabion/api"
	"gabion/array"
	"gabion/geom"
	"gabion/nand"
	"gabion/point"
)

// The lives below leave much behind, and little of it at once: it needn't be collected often.
func TestMain(m *testing.M) {
	debug.SetGCPercent(800)
	os.Exit(m.Run())
}

// An array is what points are written on.
var _ point.Dev = (*array.Array)(nil)

// life is an array on which points are written one behind the other, and what the last one may be.
type life struct {
	t     *testing.T
	what  string
	a     *nand.Array
	x     *array.Array
	maybe []point.Point // the last that was answered, and those that the power cut off since
}

// begin: an array on chips as they are; what a crash cuts off is done again.
func begin(t *testing.T, what string, a *nand.Array) *life {
	t.Helper()
	r := &life{t: t, what: what, a: a}
	for {
		x, e := array.Format(a)
		if e == api.OK {
			r.x = x
			break
		}
		if e != api.Crash {
			t.Fatal(what, "Format:", e)
		}
		a.Boot()
	}
	return r
}

// fresh: chips on which nothing stands.
func fresh(t *testing.T, g api.Geo, events ...nand.Event) *nand.Array {
	t.Helper()
	a, e := nand.New(g, nil, events...)
	if e != api.OK {
		t.Fatal(g, e)
	}
	return a
}

// next: a point with a number above all that was met, that isn't written over the last one.
func (r *life) next(n int) point.Point {
	r.t.Helper()
	p, ok, most, e := point.Last(r.x)
	for e == api.Crash {
		r.boot()
		p, ok, most, e = point.Last(r.x)
	}
	if e != api.OK {
		r.t.Fatal(r.what, "Last:", e)
	}
	seq := most + 1
	if ok && seq%2 == p.Seq%2 {
		seq++
	}
	g := r.a.Geo()
	// Points that are cut off and written again are different ones.
	return sized(seq, max(16, (1+n*5%geom.Pages(g))*g.Size-4*(r.a.Ops()%7)))
}

// write writes a point; if the power cuts it off, or it ends with another error, it may be there or not.
func (r *life) write(p point.Point) api.Errno {
	r.t.Helper()
	e := point.Write(r.x, p)
	if e == api.OK {
		r.maybe = []point.Point{p}
		return e
	}
	r.maybe = append(r.maybe, p)
	if e == api.Crash {
		r.boot()
	}
	return e
}

// boot: the power comes again, and the array is opened, as often as it takes.
func (r *life) boot() {
	r.t.Helper()
	for {
		r.a.Boot()
		x, e := array.Open(r.a)
		if e == api.OK {
			r.x = x
			break
		}
		if e != api.Crash {
			r.t.Fatal(r.what, "Open:", e)
		}
	}
	r.beside()
}

// beside checks what is there on a copy, which takes no operation.
func (r *life) beside() {
	r.t.Helper()
	x, e := array.Open(r.a.Copy())
	if e != api.OK {
		r.t.Fatal(r.what, "Open:", e)
	}
	r.check(r.what, x)
}

// check: the last point is the last one that was answered, or one that was just being written.
func (r *life) check(what string, x *array.Array) {
	r.t.Helper()
	p, ok, most, e := point.Last(x)
	if e != api.OK || ok && most < p.Seq {
		r.t.Fatal(what, "Last:", p.Seq, ok, most, e)
	}
	if len(r.maybe) == 0 || r.maybe[0].Seq > 0 && !ok {
		r.t.Fatal(what, "there is no point", ok)
	}
	if !slices.ContainsFunc(r.maybe, func(q point.Point) bool { return same(p, q) }) {
		r.t.Fatal(what, "Last is", p.Seq, "not", r.maybe[0].Seq)
	}
}

// survives: whichever chip is dead then, the last point is there.
func (r *life) survives() {
	r.t.Helper()
	for m := range r.a.Geo().Chips {
		a := r.a.Copy()
		a.Kill(m)
		x, e := array.Open(a)
		if e != api.OK {
			r.t.Fatal(r.what, "chip", m, "is dead, too:", e)
		}
		r.check(fmt.Sprint(r.what, " chip ", m, " is dead, too:"), x)
	}
}

// all writes points of many sizes, one behind the other, and ticks in between.
func (r *life) all(tick bool) {
	r.t.Helper()
	r.maybe = []point.Point{{}}
	for n := range 8 {
		if e := r.write(r.next(n)); e != api.OK && e != api.Crash {
			r.t.Fatal(r.what, "Write:", e)
		}
		if tick {
			r.tick()
		}
	}
	r.beside()
}

// tick is one step of making a dead member anew.
func (r *life) tick() {
	r.t.Helper()
	if _, e := r.x.Tick(); e == api.Crash {
		r.boot()
	} else if e != api.OK {
		r.t.Fatal(r.what, "Tick:", e)
	}
}

// whole: all members are made anew; then any other chip may die. What hasn't come by then doesn't come.
func (r *life) whole() {
	r.t.Helper()
	r.a = r.a.Copy()
	r.boot()
	for range 2 * r.a.Geo().Virtual() {
		r.tick()
	}
	if s := r.x.Set(); !s.Full() {
		r.t.Fatal(r.what, "not all are there:", s)
	}
	r.beside()
	r.survives()
}

// plain is how many operations a life takes, and after how many of them it was formatted; killed: which chip is dead then (below 0: none is).
func plain(t *testing.T, g api.Geo, killed int) (formatted, all int) {
	t.Helper()
	r := begin(t, "plain:", fresh(t, g))
	formatted = r.a.Ops()
	r.a.Kill(killed)
	r.all(killed >= 0)
	all = r.a.Ops()
	if p, ok, most, e := point.Last(r.x); e != api.OK || !ok || p.Seq != 8 || most != 8 {
		t.Fatal(p.Seq, ok, most, e)
	}
	return formatted, all
}

// left: what a crash, or a failure, may leave: noughts, what looks erased, something else.
func left(n int) []byte {
	return [][]byte{nil, {255}, {1, 2, 3}}[n%3]
}

// lives are the shapes in which each operation is gone through.
var lives = []api.Geo{least, even}

// each calls a test for each operation of a life, some of them side by side.
func each(t *testing.T, what string, from, to int, test func(t *testing.T, op int)) {
	for part := range 4 {
		t.Run(fmt.Sprint(what, " ", part), func(t *testing.T) {
			t.Parallel()
			for op := from + part; op <= to; op += 4 {
				test(t, op)
			}
		})
	}
}

// P14.2, P4: any one chip dies, at any operation: all points are written, the last of them is read; it is made anew; then any other one may die.
func TestChipDies(t *testing.T) {
	for _, g := range lives {
		from, to := plain(t, g, -1)
		for dies := range g.Chips {
			each(t, fmt.Sprint(g.Chips, " ", dies), from+1, to, func(t *testing.T, op int) {
				what := fmt.Sprint("chip ", dies, " of ", g.Chips, " dies at ", op, ":")
				r := begin(t, what, fresh(t, g, nand.Event{Op: op, Kind: nand.Die, Chip: dies}))
				r.all(op%2 == 0)
				if len(r.maybe) != 1 || r.maybe[0].Seq != 8 {
					t.Error(what, "not all were written")
				}
				if op%5 == 0 {
					r.whole()
				}
			})
		}
	}
}

// P14.2, P3: the power goes at any operation, and again soon behind: the last point is there, or the one that was just being written; also if any one chip is dead then. All goes on.
func TestCrashes(t *testing.T) {
	for _, g := range lives {
		from, to := plain(t, g, -1)
		each(t, fmt.Sprint(g.Chips), from+1, to, func(t *testing.T, op int) {
			for i, d := range []int{0, 1 + op%40, 80 + op%30} {
				events := []nand.Event{{Op: op, Kind: nand.Crash, Left: left(op + i)}, {Op: op + d, Kind: nand.Crash, Left: left(i)}}
				what := fmt.Sprint("a crash at ", op, " and ", op+d, " of ", g.Chips, ":")
				r := begin(t, what, fresh(t, g, events...))
				r.maybe = []point.Point{{}}
				for n := range 8 {
					if r.write(r.next(n)) == api.Crash {
						r.survives()
					}
				}
				r.beside()
				if op%5 == 0 {
					r.whole()
				}
			}
		})
	}
}

// P14.2: behind a crash, with all chips there, it is the one before, whatever the operation at which it came.
func TestCutOff(t *testing.T) {
	for _, g := range lives {
		r := begin(t, "plain:", fresh(t, g))
		a, b, c := paged(g, 6, 2), paged(g, 7, 3), paged(g, 8, geom.Pages(g))
		put(t, r.x, a)
		put(t, r.x, b)
		from := r.a.Ops()
		for op := from + 1; ; op++ {
			k := r.a.Copy(nand.Event{Op: op, Kind: nand.Crash, Left: left(op)})
			// The array's own opening takes operations, too.
			x, e := array.Open(k)
			if e == api.OK {
				e = point.Write(x, c)
			}
			if e == api.OK {
				if x, e = array.Open(k.Copy()); e != api.OK {
					t.Fatal(e)
				}
				last(t, "it was written:", x, c, 8)
				break
			}
			if e != api.Crash {
				t.Fatal(op, e)
			}
			if p, ok, n, e := point.Last(x); x != nil && (e != api.Crash || ok || n != 0 || !none(p)) {
				t.Error(op, "without power:", p.Seq, ok, n, e)
			}
			k.Boot()
			x, e = array.Open(k)
			if e != api.OK {
				t.Fatal(op, e)
			}
			p, ok, most, e := point.Last(x)
			if e != api.OK || !ok || !same(p, b) || most != 7 && most != 8 {
				t.Fatal(op, "Last:", p.Seq, ok, most, e)
			}
		}
	}
}

// P14.2, P3, P4: the power goes at any operation, while one chip is dead and is being made anew; behind it any other one may be dead.
func TestCrashesWithOneDead(t *testing.T) {
	for _, g := range lives {
		for dead := range g.Chips {
			from, to := plain(t, g, dead)
			each(t, fmt.Sprint(g.Chips, " ", dead), from+1, to, func(t *testing.T, op int) {
				what := fmt.Sprint("chip ", dead, " of ", g.Chips, " is dead, a crash at ", op, ":")
				r := begin(t, what, fresh(t, g, nand.Event{Op: op, Kind: nand.Crash, Left: left(op)}))
				r.a.Kill(dead)
				r.all(true)
				if op%2 == 0 {
					r.whole()
				}
			})
		}
	}
}

// P14.2, P5: blocks fail, at any operation, and are bad from the beginning: nothing is to be seen of it.
func TestBlocksFail(t *testing.T) {
	g := even
	for dead := -1; dead < g.Chips; dead++ {
		_, to := plain(t, g, dead)
		each(t, fmt.Sprint(dead), 1, to, func(t *testing.T, op int) {
			var bad [][2]int
			for c := range g.Chips + 1 {
				bad = append(bad, [2]int{c, (op + 5*c) % g.Blocks})
			}
			what := fmt.Sprint("a block fails at ", op, " chip ", dead, " is dead:")
			a, e := nand.New(g, bad, nand.Event{Op: op, Kind: nand.Fail, Left: left(op)}, nand.Event{Op: op + 1 + op%3, Kind: nand.Fail, Left: left(op + 1)})
			if e != api.OK {
				t.Fatal(e)
			}
			r := begin(t, what, a)
			a.Kill(dead)
			r.all(dead >= 0)
			if len(r.maybe) != 1 || r.maybe[0].Seq != 8 {
				t.Error(what, "not all were written")
			}
			if op%3 == 0 {
				r.survivesWhole()
			}
		})
	}
}

// survivesWhole: if all members are there whichever chip may be dead then; else all are made anew first.
func (r *life) survivesWhole() {
	r.t.Helper()
	if r.x.Set().Full() {
		r.survives()
		return
	}
	r.whole()
}

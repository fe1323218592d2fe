package store_test

import (
	"bytes"
	"fmt"
	"os"
	"runtime/debug"
	"slices"
	"sync/atomic"
	"testing"

	"gabion/api"
	"gabion/array"
	"gabion/geom"
	"gabion/nand"
	"gabion/point"
	"gabion/store"
)

// The lives below leave much behind, and little of it at once: it needn't be collected often.
func TestMain(m *testing.M) {
	debug.SetGCPercent(800)
	os.Exit(m.Run())
}

// An array is what a store stands on.
var _ point.Dev = (*array.Array)(nil)

// never: of a block that is nowhere.
const never = -1

// life is a store on an array of chips, and what its blocks must hold.
type life struct {
	t     *testing.T
	what  string
	a     *nand.Array
	x     *array.Array
	s     *store.Store
	want  []int          // of each block at which time it was written; never
	ghost map[uint32]int // those that were given up, and what they held: a crash may bring that back
	maybe []int          // what they are if the batch that was just being written is there; nil: none was
	time  int
	moved int   // how many pages were moved till the store was mounted
	cut   bool  // what the power cuts off stays so
	doubt bool  // where the power cuts something off, each chip may be dead then
	ends  []int // at which operations the last page of a point's stripe was programmed
}

// watch is an array that tells what is programmed.
type watch struct {
	*array.Array
	r *life
}

func (w watch) Program(m, b, p int, data, oob []byte) api.Errno {
	if m == w.Geo().Chips-1 && b/2 == geom.Points/2 {
		w.r.ends = append(w.r.ends, w.r.a.Ops()+1)
	}
	return w.Array.Program(m, b, p, data, oob)
}

// begin: an array, and a store, on chips as they are; what a crash cuts off is done again.
func begin(t *testing.T, what string, a *nand.Array) *life {
	t.Helper()
	r := &life{t: t, what: what, a: a, ghost: map[uint32]int{}}
	for {
		x, e := array.Format(a)
		if e == api.OK {
			r.x = x
			break
		}
		if e != api.Crash {
			t.Fatal(what, "array's Format:", e)
		}
		a.Boot()
	}
	s, e := store.Format(watch{r.x, r})
	for e == api.Crash {
		r.open()
		s, e = store.Format(watch{r.x, r})
	}
	if e != api.OK {
		t.Fatal(what, "Format:", e)
	}
	r.s = s
	r.want = slices.Repeat([]int{never}, s.Blocks())
	return r
}

// fresh: chips on which nothing stands.
func fresh(t *testing.T, g api.Geo, events ...nand.Event) *nand.Array {
	t.Helper()
	a, e := nand.New(g, nil, events...)
	if e != api.OK {
		t.Fatal(g, e)
	}
	return a
}

// open: the power comes again, and the array is opened, as often as it takes.
func (r *life) open() {
	r.t.Helper()
	for {
		r.a.Boot()
		x, e := array.Open(r.a)
		if e == api.OK {
			r.x = x
			return
		}
		if e != api.Crash {
			r.t.Fatal(r.what, "Open:", e)
		}
	}
}

// boot: likewise, and the store is mounted; then it is looked at what is there.
func (r *life) boot() {
	r.t.Helper()
	if r.cut && r.a.Off() {
		return
	}
	r.moved += r.s.Stats().Moved
	if r.doubt && r.a.Off() {
		r.survives()
	}
	for {
		r.open()
		s, e := store.Mount(watch{r.x, r})
		if e == api.OK {
			r.s = s
			break
		}
		if e != api.Crash {
			r.t.Fatal(r.what, "Mount:", e)
		}
		if r.cut {
			return
		}
	}
	x, e := array.Open(r.a.Copy())
	if e != api.OK {
		r.t.Fatal(r.what, "Open:", e)
	}
	r.want = r.tell(r.what, mount(r.t, r.what, x))
	r.maybe, r.ghost = nil, map[uint32]int{}
}

// tell: what the blocks of a store hold that was mounted: all that was answered; the batch that was just being written, or not; what was given up, or not.
func (r *life) tell(what string, s *store.Store) []int {
	r.t.Helper()
	g := r.a.Geo()
	var there, not bool
	is := make([]int, len(r.want))
	for b, time := range r.want {
		data, e := s.Get(uint32(b))
		if e != api.OK {
			r.t.Fatal(what, "block", b, e)
		}
		options := []int{time}
		if r.maybe != nil {
			options = append(options, r.maybe[b])
		}
		if x, ok := r.ghost[uint32(b)]; ok {
			options = append(options, x)
		}
		n := slices.IndexFunc(options, func(x int) bool { return bytes.Equal(data, content(g, uint32(b), x)) })
		if n < 0 {
			r.t.Fatal(what, "block", b, "isn't that of", options)
		}
		is[b] = options[n]
		// Whether the batch is there is told by what it writes, not by what it gives up.
		if r.maybe != nil && r.maybe[b] != time && r.maybe[b] != never {
			there, not = there || n == 1, not || n != 1
		}
	}
	if there && not {
		r.t.Fatal(what, "a part of a batch is there")
	}
	right(r.t, what, g, s)
	return is
}

// content: a block's bytes as of a time.
func content(g api.Geo, b uint32, time int) []byte {
	if time == never {
		return make([]byte, g.Size)
	}
	return bytesOf(g, b, time)
}

// write writes blocks, and gives others up: those that aren't among them.
func (r *life) write(blocks []uint32, drops ...uint32) {
	r.t.Helper()
	r.time++
	drops = slices.DeleteFunc(drops, func(b uint32) bool { return slices.Contains(blocks, b) })
	then := slices.Clone(r.want)
	for _, b := range blocks {
		then[b] = r.time
	}
	for _, b := range drops {
		then[b] = never
	}
	switch e := r.s.Batch(items(r.a.Geo(), r.time, blocks...), drops...); e {
	case api.OK:
		r.given(drops)
		r.want = then
		for _, b := range blocks {
			delete(r.ghost, b)
		}
	case api.Crash:
		r.maybe = then
		r.given(drops)
		r.boot()
	default:
		r.t.Fatal(r.what, "Batch:", e)
	}
}

// given: blocks were given up.
func (r *life) given(drops []uint32) {
	for _, b := range drops {
		if r.want[b] != never {
			r.ghost[b] = r.want[b]
		}
	}
}

// call does what changes no block.
func (r *life) call(by func() api.Errno) {
	r.t.Helper()
	switch e := by(); e {
	case api.OK:
	case api.Crash:
		r.boot()
	default:
		r.t.Fatal(r.what, e)
	}
}

// steps are what a life does.
var steps = []func(r *life){
	func(r *life) { r.write([]uint32{3}) },
	func(r *life) { r.write(span(r.s, 3, 2)) },
	func(r *life) { r.fill() },
	func(r *life) { r.write(spread(r.s, 1, 9), 8, 3) },
	func(r *life) { r.write([]uint32{5}) },
	func(r *life) { r.call(r.s.Point) },
	func(r *life) { r.write(spread(r.s, 4, 15)) },
	func(r *life) { r.write(nil, 20, 21) },
	func(r *life) { r.write(spread(r.s, 1, 12)) },
	func(r *life) { r.write([]uint32{6}) },
	func(r *life) { r.write(spread(r.s, 4, api.MaxBatch)) },
	func(r *life) { r.call(func() api.Errno { _, e := r.s.Trim(); return e }) },
	func(r *life) { r.write(spread(r.s, 1, 14), 6) },
	func(r *life) { r.write([]uint32{4}) },
	func(r *life) { r.boot() },
	func(r *life) { r.write(spread(r.s, 4, 13)) },
	func(r *life) { r.call(func() api.Errno { _, e := r.s.Scrub(); return e }) },
	func(r *life) { r.write([]uint32{2}, 13) },
	func(r *life) { r.write(span(r.s, 5, api.MaxBatch-1)) },
	func(r *life) { r.write([]uint32{0}) },
}

// spread: n blocks from one on, far from one another.
func spread(s *store.Store, from, n int) []uint32 {
	var l []uint32
	for i := range n {
		l = append(l, uint32((from+i*11)%s.Blocks()))
	}
	return l
}

// fill writes all blocks.
func (r *life) fill() {
	r.t.Helper()
	for from := 0; from < r.s.Blocks(); from += api.MaxBatch {
		r.write(span(r.s, from, min(api.MaxBatch, r.s.Blocks()-from)))
	}
}

// all does all steps; tick: and makes a dead member anew, meanwhile.
func (r *life) all(tick bool) {
	r.t.Helper()
	for _, step := range steps {
		step(r)
		if tick {
			r.tick()
		}
	}
	r.beside()
}

// tick is one step of making a dead member anew; where there is none in reserve, or it is dead, there is none.
func (r *life) tick() {
	r.t.Helper()
	r.call(func() api.Errno {
		_, e := r.x.Tick()
		return e
	})
}

// beside checks what is there, and what is there behind a Mount on a copy, which takes no operation.
func (r *life) beside() {
	r.t.Helper()
	a := r.a.Copy()
	a.Boot()
	x, e := array.Open(a)
	if e != api.OK {
		r.t.Fatal(r.what, "Open:", e)
	}
	r.tell(r.what, mount(r.t, r.what, x))
}

// survives: whichever chip is dead then, all is there.
func (r *life) survives() {
	r.t.Helper()
	for m := range r.a.Geo().Chips + 1 {
		a := r.a.Copy()
		a.Boot()
		a.Kill(m)
		x, e := array.Open(a)
		if e != api.OK {
			r.t.Fatal(r.what, "chip", m, "is dead, too:", e)
		}
		what := fmt.Sprint(r.what, " chip ", m, " is dead, too:")
		r.tell(what, mount(r.t, what, x))
	}
}

// whole: all members are made anew; then any other chip may die. What hasn't come by then doesn't come.
func (r *life) whole() {
	r.t.Helper()
	r.a = r.a.Copy()
	r.boot()
	for range 2 * r.a.Geo().Virtual() {
		r.tick()
	}
	if s := r.x.Set(); !s.Full() {
		r.t.Fatal(r.what, "not all are there:", s)
	}
	r.beside()
	r.survives()
}

// plain is how many operations a life takes; killed: which chip is dead from the beginning (below 0: none is).
func plain(t *testing.T, g api.Geo, killed int) int {
	t.Helper()
	r := begin(t, "plain:", fresh(t, g))
	r.a.Kill(killed)
	r.all(killed >= 0)
	if r.moved += r.s.Stats().Moved; r.moved == 0 {
		t.Error(g, "nothing was moved")
	}
	return r.a.Ops()
}

// left: what a crash, or a failure, may leave: noughts, what looks erased, something else.
func left(n int) []byte {
	return [][]byte{nil, {255}, {1, 2, 3}}[n%3]
}

// lives are the shapes in which each operation is gone through.
var lives = []api.Geo{rows, even, least}

// each calls a test for each operation of a life, some of them side by side.
func each(t *testing.T, what string, to int, test func(t *testing.T, op int)) {
	const parts = 4
	for part := range parts {
		t.Run(fmt.Sprint(what, " ", part), func(t *testing.T) {
			t.Parallel()
			for op := 1 + part; op <= to; op += parts {
				test(t, op)
			}
		})
	}
}

// P16.4, P4: any one chip dies, at any operation, and the power goes soon behind: nothing is to be seen of it; it is made anew; then any other one may die.
func TestChipDies(t *testing.T) {
	for _, g := range lives[:2] {
		to := plain(t, g, -1)
		for dies := range g.Chips + 1 {
			each(t, fmt.Sprint(g.Chips, " ", dies), to, func(t *testing.T, op int) {
				what := fmt.Sprint("chip ", dies, " of ", g.Chips, " dies at ", op, ":")
				events := []nand.Event{{Op: op, Kind: nand.Die, Chip: dies}, {Op: op + 1 + op%397, Kind: nand.Crash, Left: left(op)}}
				r := begin(t, what, fresh(t, g, events[:1+op%2]...))
				r.all(false)
				if op%5 == 0 && dies < g.Chips {
					r.whole()
				}
			})
		}
	}
}

// P16.3, P3: the power goes at any operation, and again soon behind, also while the store is mounted: all batches that were answered are there, and the one that was just being written is, whole, or isn't; also if any one chip is dead then. All goes on.
func TestCrashes(t *testing.T) {
	for _, g := range lives {
		to := plain(t, g, -1)
		each(t, fmt.Sprint(g.Chips, " ", g.Pages), to, func(t *testing.T, op int) {
			for i, d := range []int{0, 1 + op%97, 290 + op%293} {
				events := []nand.Event{{Op: op, Kind: nand.Crash, Left: left(op + i)}, {Op: op + d, Kind: nand.Crash, Left: left(i)}}
				what := fmt.Sprint("a crash at ", op, " and ", op+d, " of ", g.Chips, ":")
				r := begin(t, what, fresh(t, g, events...))
				r.doubt = i == 0
				r.all(false)
				if (op+i)%11 == 0 {
					r.whole()
				}
			}
		})
	}
}

// P16.3, P16.4: the power goes at any operation, while one chip is dead and is being made anew; behind it any other one may be dead.
func TestCrashesWithOneDead(t *testing.T) {
	for _, g := range lives[:2] {
		for dead := range g.Chips {
			to := plain(t, g, dead)
			each(t, fmt.Sprint(g.Chips, " ", g.Pages, " ", dead), to, func(t *testing.T, op int) {
				what := fmt.Sprint("chip ", dead, " of ", g.Chips, " is dead, a crash at ", op, ":")
				events := []nand.Event{{Op: op, Kind: nand.Crash, Left: left(op)}, {Op: op + 1 + op%397, Kind: nand.Crash, Left: left(op / 3)}}
				a := fresh(t, g, events[:1+op%2]...)
				r := begin(t, what, a)
				a.Kill(dead)
				r.all(true)
				if op%5 == 0 {
					r.whole()
				}
			})
		}
	}
}

// P16.4, P5: blocks fail, at any operation, and are bad from the beginning: nothing is to be seen of it.
func TestBlocksFail(t *testing.T) {
	g := even
	for dead := -1; dead < g.Chips; dead++ {
		to := plain(t, g, dead)
		each(t, fmt.Sprint(dead), to, func(t *testing.T, op int) {
			var bad [][2]int
			for c := range g.Chips + 1 {
				bad = append(bad, [2]int{c, (op + 5*c) % g.Blocks})
			}
			what := fmt.Sprint("a block fails at ", op, " chip ", dead, " is dead:")
			a, e := nand.New(g, bad, nand.Event{Op: op, Kind: nand.Fail, Left: left(op)}, nand.Event{Op: op + 1 + op%3, Kind: nand.Fail, Left: left(op + 1)})
			if e != api.OK {
				t.Fatal(e)
			}
			r := begin(t, what, a)
			a.Kill(dead)
			r.all(dead >= 0)
			if op%7 == 0 {
				r.whole()
			}
		})
	}
}

// last: the number of the last point, as another chip is dead, too (below 0: none is).
func last(t *testing.T, a *nand.Array, dead int) uint32 {
	t.Helper()
	a = a.Copy()
	a.Boot()
	a.Kill(dead)
	x, e := array.Open(a)
	if e != api.OK {
		t.Fatal(e)
	}
	p, _, _, e := point.Last(x)
	if e != api.OK {
		t.Fatal(e)
	}
	return p.Seq
}

// P16.3, P16.4: a point is cut off by its last page; the power goes again while the store is mounted; then the chip dies on which that page was to be, and with which the point is whole: what it names is there.
func TestPointThatComesBack(t *testing.T) {
	for _, g := range lives {
		p := begin(t, "plain:", fresh(t, g))
		p.all(false)
		var times atomic.Int32
		t.Run(fmt.Sprint(g.Chips, " ", g.Pages), func(t *testing.T) {
			each(t, "part", len(p.ends)-1, func(t *testing.T, n int) {
				op := p.ends[n]
				a := fresh(t, g, nand.Event{Op: op, Kind: nand.Crash})
				r := begin(t, fmt.Sprint("a crash at ", op, ":"), a)
				if !r.until(a) {
					t.Fatal("there was none at", op)
				}
				for m := range g.Chips {
					if last(t, a, m) != last(t, a, -1) {
						times.Add(1)
						r.comesBack(a, m)
					}
				}
			})
		})
		if times.Load() == 0 {
			t.Error("no point was cut off by its last page")
		}
	}
}

// until does steps up to one that is cut off by the power; false: there is none.
func (r *life) until(a *nand.Array) bool {
	r.t.Helper()
	r.cut = true
	for _, step := range steps {
		if step(r); a.Off() {
			return true
		}
	}
	return false
}

// comesBack: the power goes at any operation while the store is mounted again, then a chip dies.
func (r *life) comesBack(a *nand.Array, dead int) {
	r.t.Helper()
	opened := a.Copy()
	opened.Boot()
	if _, e := array.Open(opened); e != api.OK {
		r.t.Fatal(r.what, e)
	}
	for op := opened.Ops() + 1; ; op++ {
		k := a.Copy(nand.Event{Op: op, Kind: nand.Crash})
		k.Boot()
		x, e := array.Open(k)
		if e == api.OK {
			_, e = store.Mount(x)
		}
		if e == api.OK {
			return
		}
		if e != api.Crash {
			r.t.Fatal(r.what, e)
		}
		k = k.Copy()
		k.Boot()
		k.Kill(dead)
		if x, e = array.Open(k); e != api.OK {
			r.t.Fatal(r.what, e)
		}
		what := fmt.Sprint(r.what, " and at ", op, ", then chip ", dead, " is dead:")
		r.tell(what, mount(r.t, what, x))
	}
}

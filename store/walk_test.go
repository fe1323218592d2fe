package store_test

import (
	"fmt"
	"slices"
	"testing"

	"gabion/api"
	"gabion/geom"
	"gabion/store"
)

// walk is a store, what the words say of it, and what its blocks hold.
type walk struct {
	t    *testing.T
	what string
	d    *members
	s    *store.Store
	m    *model
	want map[uint32]int // blocks that are somewhere, and when they were written
	old  map[uint32]int // those that were given up since the last point: a Mount brings them back
	time int
}

func newWalk(t *testing.T, g api.Geo) *walk {
	t.Helper()
	d, s := format(t, g)
	w := &walk{t: t, what: fmt.Sprint(g), d: d, s: s, m: newModel(g), want: map[uint32]int{}, old: map[uint32]int{}}
	w.same()
	return w
}

// same: is the store what the words say?
func (w *walk) same() {
	w.t.Helper()
	w.m.same(w.t, fmt.Sprint(w.what, " at ", w.time), w.s)
}

// batch writes blocks, and gives others up.
func (w *walk) batch(l []uint32, drops ...uint32) {
	w.t.Helper()
	w.time++
	points := w.s.Stats().Points
	batch(w.t, w.what, w.s, items(w.m.g, w.time, l...), drops...)
	if e := w.m.batch(l, drops...); e != api.OK {
		w.t.Fatal(w.what, "by the words:", e)
	}
	if w.s.Stats().Points != points {
		w.old = map[uint32]int{}
	}
	for _, b := range l {
		w.want[b] = w.time
		delete(w.old, b)
	}
	for _, b := range drops {
		if x, ok := w.want[b]; ok {
			w.old[b] = x
		}
		delete(w.want, b)
	}
	w.same()
}

// point is a new point.
func (w *walk) point() {
	w.t.Helper()
	if e := w.s.Point(); e != api.OK {
		w.t.Fatal(w.what, "Point:", e)
	}
	w.m.room(0)
	w.m.point(nil)
	w.old = map[uint32]int{}
	w.same()
}

// mount: the store is left, and mounted again.
func (w *walk) mount() {
	w.t.Helper()
	w.s = mount(w.t, w.what, w.d)
	w.m.mount()
	for b, x := range w.old {
		w.want[b] = x
	}
	w.old = map[uint32]int{}
	w.same()
}

// check: do all blocks hold what was written last?
func (w *walk) check() {
	w.t.Helper()
	for b := range uint32(w.s.Blocks()) {
		x, ok := w.want[b]
		if !ok {
			x = never
		}
		holds(w.t, fmt.Sprint(w.what, " at ", w.time), w.s, b, x)
	}
	right(w.t, fmt.Sprint(w.what, " at ", w.time), w.m.g, w.s)
}

// dice are numbers, the same in each run.
type dice uint32

func (d *dice) next(n int) int {
	*d = *d*1664525 + 1013904223
	return int(uint32(*d)>>8) % n
}

// some: n of the blocks from one on to below another, in any order.
func (d *dice) some(n, from, to int) []uint32 {
	var all []uint32
	for b := from; b < to; b++ {
		all = append(all, uint32(b))
	}
	for i := range all {
		j := i + d.next(len(all)-i)
		all[i], all[j] = all[j], all[i]
	}
	return all[:min(n, len(all))]
}

// P16.1, P16.2, P16.5: whatever is written and given up, in batches of all sizes, onto many blocks and onto few, with points and Mounts in between: all is as the words say, and what was written last is read.
func TestWalk(t *testing.T) {
	for _, g := range small {
		for seed := range 6 {
			t.Run(fmt.Sprint(g.Chips, " ", g.Pages, " ", seed), func(t *testing.T) {
				t.Parallel()
				w := newWalk(t, g)
				d := dice(seed)
				for range 250 {
					to := []int{w.s.Blocks(), 8}[d.next(4)/3]
					l := d.some([]int{0, 1, 1, 2, g.Chips - 2, g.Chips - 1, g.Chips, 9, 32}[d.next(9)], 0, to)
					drops := d.some([]int{0, 0, 0, 1, 3, 20}[d.next(6)], 0, w.s.Blocks())
					drops = slices.DeleteFunc(drops, func(b uint32) bool { return slices.Contains(l, b) })
					w.batch(l, drops...)
					switch d.next(25) {
					case 0:
						w.mount()
					case 1:
						w.point()
					case 2:
						w.check()
					}
				}
				w.mount()
				w.check()
			})
		}
	}
}

// P16.2, P16.5: all blocks are written; then few ones, or half of them, batch behind batch, till segments were erased, and cleared, again and again.
func TestFewBlocksAgainAndAgain(t *testing.T) {
	for _, g := range small {
		for _, few := range []int{1, 9, geom.Capacity(g) / 2} {
			w := newWalk(t, g)
			for l := range slices.Chunk(span(w.s, 0, w.s.Blocks()), api.MaxBatch) {
				w.batch(l)
			}
			d := dice(g.Chips)
			for n := 0; erases(w.s) < 20 || few > 9 && w.s.Stats().Cleared < 20; n++ {
				if n == 8000 {
					t.Fatal(g, few, "after so many batches", w.s.Stats(), w.s.Segs())
				}
				w.batch(d.some(1+d.next(7), 3, 3+few))
			}
			w.check()
			w.mount()
			w.check()
		}
	}
}

// erases: how often the segment was erased that was erased most.
func erases(s *store.Store) uint32 {
	var n uint32
	for _, x := range s.Segs() {
		n = max(n, x.Erases)
	}
	return n
}

// P16.2: all blocks are written, each once more, in any order; all are given up, and written again.
func TestAllBlocks(t *testing.T) {
	for _, g := range small {
		w := newWalk(t, g)
		all := w.s.Blocks()
		for range 3 {
			d := dice(all)
			for l := range slices.Chunk(d.some(all, 0, all), api.MaxBatch) {
				w.batch(l)
			}
			if used, _ := w.s.Space(); used != all {
				t.Error(g, used, "of", all)
			}
			w.check()
		}
		w.batch(nil, span(w.s, 0, all)...)
		if used, _ := w.s.Space(); used != 0 {
			t.Error(g, used, "are still somewhere")
		}
		w.check()
		w.point()
		w.mount()
		w.check()
		for l := range slices.Chunk(span(w.s, 5, all), 7) {
			w.batch(l)
		}
		w.check()
	}
}

// P16.2, P16.5: the greatest shape.
func TestGreatest(t *testing.T) {
	t.Parallel()
	w := newWalk(t, greatest)
	d := dice(1)
	for range 40 {
		w.batch(d.some(api.MaxBatch, 1, w.s.Blocks()), 0)
	}
	w.mount()
	for _, b := range []uint32{0, 1, 77, uint32(w.s.Blocks() - 1)} {
		x, ok := w.want[b]
		if !ok {
			x = never
		}
		holds(t, "the greatest:", w.s, b, x)
	}
	right(t, "the greatest:", greatest, w.s)
}

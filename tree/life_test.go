package tree_test

import (
	"fmt"
	"sync/atomic"
	"testing"

	"gabion/api"
	"gabion/array"
	"gabion/nand"
	"gabion/store"
	"gabion/tree"
)

// life is a tree on chips to which something comes, and what it must be.
type life struct {
	*rig
	what  string
	m     *model   // what it is
	past  []*model // what it was when it was synced, and behind each operation since
	dice  dice
	chips bool // where the power goes each chip may be dead then
	ticks bool // a dead member is made anew, meanwhile
	reset int  // how often the power went
	back  int  // how many operations weren't there then
}

// begin: a new tree on chips; what the power cuts off is done again.
func begin(t *testing.T, what string, a *nand.Array, seed dice) *life {
	t.Helper()
	r := &life{rig: &rig{t: t, a: a}, what: what, dice: seed}
	for {
		a.Boot()
		e := r.format()
		if e == api.OK {
			break
		}
		if e != api.Crash {
			t.Fatal(what, "Format:", e)
		}
	}
	r.m = newModel(r.Layout())
	r.past = []*model{r.m.copied()}
	return r
}

func (r *life) format() (e api.Errno) {
	if r.x, e = array.Format(r.a); e != api.OK {
		return e
	}
	if r.s, e = store.Format(r.x); e != api.OK {
		return e
	}
	r.Tree, e = tree.Format(r.s, r.a.Geo().Size)
	return e
}

// live does so many operations, and a Sync now and then.
func (r *life) live(n int) {
	r.t.Helper()
	for range n {
		o := r.dice.order(r.m, 90*r.m.lay.Size)
		if r.dice.next(2) > 0 && o.word == "sync" {
			o.word = "write"
		}
		if o.n == 0 && o.word == "write" {
			o.word = "create"
		}
		r.do(o)
		if r.ticks {
			r.tick()
		}
	}
	r.do(order{word: "sync"})
}

// do does one; if the power goes, it comes again.
func (r *life) do(o order) {
	r.t.Helper()
	c := r.m.copied()
	got, want := o.tree(r.Tree), o.model(c)
	if is(got, api.Crash) {
		r.boot()
		return
	}
	if got != want {
		r.t.Fatal(r.what, o, "answers", got, "want", want)
	}
	r.m = c
	switch {
	case o.word == "sync":
		r.past = []*model{c}
	case o.changes() && is(got, api.OK):
		r.past = append(r.past, c)
	}
}

// tick is one step of making a dead member anew; where there is none in reserve, there is none.
func (r *life) tick() {
	r.t.Helper()
	switch _, e := r.x.Tick(); e {
	case api.OK, api.State, api.Dead:
	case api.Crash:
		r.boot()
	default:
		r.t.Fatal(r.what, "Tick:", e)
	}
}

// boot: the power comes again: the tree is as it was at the last Sync, or behind some of the first operations since.
func (r *life) boot() {
	r.t.Helper()
	r.reset++
	if r.chips {
		r.survives()
	}
	r.open()
	y := r.again()
	n := r.tell(y, r.what)
	r.back += len(r.past) - 1 - n
	r.m = r.past[n]
	r.past = []*model{r.m}
}

// tell: how many operations since the last Sync are there.
func (r *life) tell(y *rig, what string) int {
	r.t.Helper()
	is := y.dump()
	for n := len(r.past) - 1; n >= 0; n-- {
		if r.past[n].dump() == is {
			y.whole(what)
			if ok, e := y.s.Check(); !ok || e != api.OK {
				r.t.Fatal(what, "the store isn't right:", ok, e)
			}
			return n
		}
	}
	r.t.Fatal(what, "it is\n", is, "and was none of", len(r.past), "the last of which is\n", r.m.dump())
	return 0
}

// survives: whichever chip is dead then, all is there.
func (r *life) survives() {
	r.t.Helper()
	for c := range r.a.Geo().Chips + 1 {
		k := &rig{t: r.t, a: r.a.Copy()}
		k.a.Kill(c)
		k.open()
		r.tell(k, fmt.Sprint(r.what, " chip ", c, " is dead, too:"))
	}
}

// ends: all is there, and is when it is mounted again.
func (r *life) ends() {
	r.t.Helper()
	r.past = []*model{r.m}
	r.tell(r.again(), r.what)
}

// fresh: chips on which nothing stands.
func fresh(t *testing.T, g api.Geo, events ...nand.Event) *nand.Array {
	t.Helper()
	a, e := nand.New(g, nil, events...)
	if e != api.OK {
		t.Fatal(e)
	}
	return a
}

// length is how many operations a life has.
const length = 300

// plain: how many operations of the chips a life takes.
func plain(t *testing.T, g api.Geo, seed dice, dead int) int {
	t.Helper()
	a := fresh(t, g)
	a.Kill(dead)
	r := begin(t, "plain:", a, seed)
	r.ticks = dead >= 0
	r.live(length)
	r.ends()
	return a.Ops()
}

// each calls a test for each step-th operation of a life, some of them side by side.
func each(t *testing.T, what string, to, step int, test func(t *testing.T, op int)) {
	const parts = 8
	for part := range parts {
		t.Run(fmt.Sprint(what, " ", part), func(t *testing.T) {
			t.Parallel()
			for op := 1 + part*step; op <= to; op += parts * step {
				test(t, op)
			}
		})
	}
}

// P20.3, P3: the power goes at any operation of the chips, and again soon behind, also while the tree is mounted: it is as it was at the last Sync, or behind some of the first operations since; also if any one chip is dead then. All goes on.
func TestCrashes(t *testing.T) {
	for i, g := range []api.Geo{small, least, broad} {
		seed := dice(i + 1)
		to := plain(t, g, seed, -1)
		var resets, back atomic.Int32
		t.Run(fmt.Sprint(g.Chips, " ", g.Size), func(t *testing.T) {
			each(t, "part", to, 1+i/2, func(t *testing.T, op int) {
				events := []nand.Event{{Op: op, Kind: nand.Crash, Left: left(op)}, {Op: op + 1 + op%491, Kind: nand.Crash, Left: left(op + 1)}}
				r := begin(t, fmt.Sprint("a crash at ", op, ":"), fresh(t, g, events[:1+op%2]...), seed)
				r.chips = op%3 == 0
				r.live(length)
				r.ends()
				resets.Add(int32(r.reset))
				back.Add(int32(r.back))
			})
		})
		if resets.Load() < int32(to/3) || back.Load() == 0 {
			t.Error(g, "the power went", resets.Load(), "times, of", to, "operations; these weren't there:", back.Load())
		}
	}
}

// P20.3, P4: any one chip dies, at any operation, and the power goes soon behind; or it is dead from the beginning, and is made anew meanwhile.
func TestChipDies(t *testing.T) {
	g, seed := small, dice(4)
	to := plain(t, g, seed, -1)
	for dies := range g.Chips + 1 {
		each(t, fmt.Sprint("chip ", dies), to, 3, func(t *testing.T, op int) {
			events := []nand.Event{{Op: op, Kind: nand.Die, Chip: dies}, {Op: op + 1 + op%97, Kind: nand.Crash, Left: left(op)}}
			r := begin(t, fmt.Sprint("chip ", dies, " dies at ", op, ":"), fresh(t, g, events[:1+op%2]...), seed)
			r.ticks = op%4 > 1
			r.live(length)
			r.ends()
		})
		to := plain(t, g, seed, dies)
		each(t, fmt.Sprint("chip ", dies, " is dead"), to, 5, func(t *testing.T, op int) {
			a := fresh(t, g, nand.Event{Op: op, Kind: nand.Crash, Left: left(op)})
			a.Kill(dies)
			r := begin(t, fmt.Sprint("chip ", dies, " is dead, a crash at ", op, ":"), a, seed)
			r.ticks = true
			r.live(length)
			r.ends()
		})
	}
}

// P20.3, P5: a block fails, at any operation: nothing is to be seen of it.
func TestBlocksFail(t *testing.T) {
	g, seed := small, dice(5)
	to := plain(t, g, seed, -1)
	each(t, "part", to, 2, func(t *testing.T, op int) {
		events := []nand.Event{{Op: op, Kind: nand.Fail, Left: left(op)}, {Op: op + 1, Kind: nand.Fail}, {Op: op + 2 + op%101, Kind: nand.Crash}}
		r := begin(t, fmt.Sprint("a block fails at ", op, ":"), fresh(t, g, events[:2+op/2%2]...), seed)
		r.live(length)
		r.ends()
	})
}

// P20.3: a long life without a Sync: what is there if the power goes at any time are the first operations, and not much fewer than all.
func TestWithoutSync(t *testing.T) {
	for _, g := range []api.Geo{small, some, broad} {
		t.Run(fmt.Sprint(g.Chips, " ", g.Size), func(t *testing.T) {
			t.Parallel()
			r := begin(t, "without a Sync:", fresh(t, g), 7)
			there := 0
			for range 300 {
				o := r.dice.order(r.m, 90*r.m.lay.Size)
				if o.word == "sync" || o.n == 0 && o.word == "write" {
					o.word = "create"
				}
				batches := r.s.Stats().Batches
				r.do(o)
				n := r.tell(r.again(), r.what)
				// What is written ahead of an operation is all that was there.
				if r.s.Stats().Batches > batches {
					there = len(r.past) - 2
				}
				if n < there {
					t.Fatal(o, n, "operations are there of", len(r.past)-1, "and", there, "were written")
				}
			}
			if there == 0 {
				t.Error("nothing was written")
			}
		})
	}
}

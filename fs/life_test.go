package fs_test

import (
	"fmt"
	"sync/atomic"
	"testing"

	"gabion/api"
	"gabion/fs"
	"gabion/nand"
)

// life is a file system on chips to which something comes, and what it must be.
type life struct {
	*rig
	what  string
	m     *model   // what it is
	past  []*model // what it was when it was synced, and behind each change since
	dice  dice
	chips bool // where the power goes each chip may be dead then
	ticks bool // a dead member is made anew, meanwhile
	reset int  // how often the power went
	back  int  // how many changes weren't there then
}

// begin: a new file system on chips; what the power cuts off is done again.
func begin(t *testing.T, what string, a *nand.Array, seed dice) *life {
	t.Helper()
	r := &life{rig: &rig{t: t, a: a}, what: what, dice: seed}
	for {
		a.Boot()
		f, e := fs.Format(a)
		if e == api.OK {
			r.FS = f
			break
		}
		if e != api.Crash {
			t.Fatal(what, "Format:", e)
		}
	}
	r.m = newModel(r.Tree().Layout().Most())
	r.past = []*model{r.m.copied()}
	return r
}

// live does so many operations, and a Sync.
func (r *life) live(n int) {
	r.t.Helper()
	for range n {
		o := r.dice.order(r.m, 30*r.a.Geo().Size)
		r.do(o)
		if r.ticks {
			r.tick()
		}
	}
	r.do(order{word: "sync"})
}

// do does one; if the power goes, it comes again.
func (r *life) do(o order) {
	r.t.Helper()
	c := r.m.copied()
	c.open, c.keeps = r.m.open, true
	got := o.fs(r.FS)
	if is(got, api.NoSpc) {
		// What was made of a pack is nowhere else to be seen.
		if o.word == "unpack" {
			c.log = nil
			r.part(r.what, o, c)
			r.gone(c)
		}
		return
	}
	want := o.model(c)
	if r.a.Off() {
		// Of a pack a part may be there.
		r.past = append(r.past, c.log...)
		r.boot()
		return
	}
	if got != want {
		r.t.Fatal(r.what, o, "answers", got, "want", want)
	}
	r.gone(c)
	if is(got, api.OK) && (o.word == "sync" || o.word == "fsync" || o.word == "scrub") {
		r.past = []*model{c.copied()}
	}
}

// gone: all that a model kept was done.
func (r *life) gone(c *model) {
	r.past = append(r.past, c.log...)
	c.log, c.keeps = nil, false
	r.m = c
}

// tick is one step of making a dead member anew; where there is none in reserve, there is none.
func (r *life) tick() {
	r.t.Helper()
	switch _, e := r.Tick(); e {
	case api.OK, api.State, api.Dead:
	case api.Crash:
		r.boot()
	default:
		r.t.Fatal(r.what, "Tick:", e)
	}
}

// open: the file system is mounted, as often as the power goes meanwhile.
func (r *rig) open() {
	r.t.Helper()
	for {
		r.a.Boot()
		f, e := fs.Mount(r.a)
		if e == api.OK {
			r.FS = f
			return
		}
		if e != api.Crash {
			r.t.Fatal("Mount:", e)
		}
	}
}

// boot: the power comes again: the tree is as it was at the last Sync, or behind some of the first changes since.
func (r *life) boot() {
	r.t.Helper()
	r.reset++
	if r.chips {
		r.survives()
	}
	r.open()
	n := r.tell(r.again(), r.what)
	r.back += len(r.past) - 1 - n
	r.m = r.past[n].copied()
	r.past = []*model{r.m.copied()}
}

// tell: how many changes since the last Sync are there.
func (r *life) tell(y *rig, what string) int {
	r.t.Helper()
	is := y.dump()
	for n := len(r.past) - 1; n >= 0; n-- {
		if r.past[n].dump() == is {
			y.whole(what)
			return n
		}
	}
	r.t.Fatal(what, "it is\n", is, "and was none of", len(r.past), "the last of which is\n", r.m.dump())
	return 0
}

// survives: whichever chip is dead then, all is there.
func (r *life) survives() {
	r.t.Helper()
	for c := range r.a.Chips() {
		k := &rig{t: r.t, a: r.a.Copy()}
		k.a.Kill(c)
		k.open()
		r.tell(k, fmt.Sprint(r.what, " chip ", c, " is dead, too:"))
	}
}

// ends: all is there when it is mounted again; and when all members were made anew, whichever chip dies then.
func (r *life) ends() {
	r.t.Helper()
	r.past = []*model{r.m}
	k := r.again()
	r.tell(k, r.what+" mounted:")
	if !k.renew() {
		return
	}
	r.tell(k, r.what+" full:")
	r.tell(k.again(), r.what+" full, and mounted:")
	r.a = k.a
	r.survives()
}

// renew: all members are there, as far as they can be made anew; false: no chip is in reserve for one.
func (r *rig) renew() bool {
	r.t.Helper()
	for !r.Full() {
		full, e := r.Tick()
		if e == api.State {
			return false
		}
		if full != r.Full() || e != api.OK {
			r.t.Fatal("Tick:", full, e)
		}
	}
	return true
}

// length is how many operations a life has.
const length = 150

// plain: how many operations of the chips a life takes.
func plain(t *testing.T, g api.Geo, seed dice, dead int) int {
	t.Helper()
	a := chips(t, g)
	a.Kill(dead)
	r := begin(t, "plain:", a, seed)
	r.ticks = dead >= 0
	r.live(length)
	to := a.Ops()
	r.ends()
	return to
}

// each calls a test for each step-th operation of a life, some of them side by side.
func each(t *testing.T, what string, to, step int, test func(t *testing.T, op int)) {
	const parts = 8
	for part := range parts {
		t.Run(fmt.Sprint(what, " ", part), func(t *testing.T) {
			t.Parallel()
			for op := 1 + part*step; op <= to; op += parts * step {
				test(t, op)
			}
		})
	}
}

// P21.3, P16.5, P3: the power goes at any operation of the chips, and again soon behind, also while it is mounted: it is as it was at the last Sync, or behind some of the first changes since; also if any one chip is dead then. All goes on.
func TestCrashes(t *testing.T) {
	for i, g := range []api.Geo{small, least, some, broad} {
		seed := dice(i + 1)
		to := plain(t, g, seed, -1)
		var resets, back atomic.Int32
		step := 1 + i/2*4
		t.Run(fmt.Sprint(g.Chips, " ", g.Size), func(t *testing.T) {
			each(t, "part", to, step, func(t *testing.T, op int) {
				events := []nand.Event{{Op: op, Kind: nand.Crash, Left: left(op)}, {Op: op + 1 + op%491, Kind: nand.Crash, Left: left(op + 1)}}
				r := begin(t, fmt.Sprint("a crash at ", op, ":"), chips(t, g, events[:1+op%2]...), seed)
				r.chips = op%3 == 0
				r.live(length)
				r.ends()
				resets.Add(int32(r.reset))
				back.Add(int32(r.back))
			})
		})
		if resets.Load() < int32(to/step/2) || back.Load() == 0 {
			t.Error(g, "the power went", resets.Load(), "times, of", to, "operations; these weren't there:", back.Load())
		}
	}
}

// P21.4, P21.5, P16.5, P4: any one chip dies, at any operation, and the power goes soon behind; members are made anew meanwhile, or at last; then any other one may die.
func TestChipDies(t *testing.T) {
	g, seed := small, dice(4)
	to := plain(t, g, seed, -1)
	for dies := range g.Chips + 1 {
		each(t, fmt.Sprint("chip ", dies), to, 3, func(t *testing.T, op int) {
			events := []nand.Event{{Op: op, Kind: nand.Die, Chip: dies}, {Op: op + 1 + op%97, Kind: nand.Crash, Left: left(op)}}
			r := begin(t, fmt.Sprint("chip ", dies, " dies at ", op, ":"), chips(t, g, events[:1+op%2]...), seed)
			r.ticks = op%4 > 1
			r.live(length)
			r.ends()
		})
		to := plain(t, g, seed, dies)
		each(t, fmt.Sprint("chip ", dies, " is dead"), to, 7, func(t *testing.T, op int) {
			a := chips(t, g, nand.Event{Op: op, Kind: nand.Crash, Left: left(op)})
			a.Kill(dies)
			r := begin(t, fmt.Sprint("chip ", dies, " is dead, a crash at ", op, ":"), a, seed)
			r.ticks = true
			r.live(length)
			r.ends()
		})
	}
}

// P21.5, P4: any chip died, and all members were made anew; then any other one dies, at any operation, and the power goes soon behind.
func TestAnotherChipDies(t *testing.T) {
	for i, g := range []api.Geo{least, some} {
		for first := range g.Chips + 1 {
			r := begin(t, fmt.Sprint("chip ", first, " is dead:"), chips(t, g), dice(6+i))
			r.live(length / 3)
			r.a.Kill(first)
			r.open()
			r.m.open = [16]place{}
			if !r.renew() {
				t.Fatal(r.what, "it isn't made anew")
			}
			r.ends()
			to := r.a.Ops()
			each(t, fmt.Sprint(g.Chips, " ", first), to, 17+60*i, func(t *testing.T, op int) {
				second := op % (g.Chips + 1)
				a := r.a.Copy(nand.Event{Op: op, Kind: nand.Die, Chip: second}, nand.Event{Op: op + 1 + op%61, Kind: nand.Crash, Left: left(op)})
				k := &life{rig: &rig{t: t, a: a}, what: fmt.Sprint(r.what, " chip ", second, " dies at ", op, ":"), m: r.m.copied(), dice: dice(op)}
				k.past = []*model{k.m.copied()}
				k.open()
				k.live(length / 3)
				k.ends()
			})
		}
	}
}

// P21.3, P5: a block fails, at any operation: nothing is to be seen of it.
func TestBlocksFail(t *testing.T) {
	g, seed := small, dice(5)
	to := plain(t, g, seed, -1)
	each(t, "part", to, 3, func(t *testing.T, op int) {
		events := []nand.Event{{Op: op, Kind: nand.Fail, Left: left(op)}, {Op: op + 1, Kind: nand.Fail}, {Op: op + 2 + op%101, Kind: nand.Crash}}
		r := begin(t, fmt.Sprint("a block fails at ", op, ":"), chips(t, g, events[:2+op/2%2]...), seed)
		r.live(length)
		r.ends()
	})
}

// events: what comes to chips, by chance: the power goes often, a chip dies, a block fails.
func (d *dice) events(chips int) []nand.Event {
	var l []nand.Event
	op, dies, fails := 1, 0, 0
	for range d.next(40) {
		op += 1 + d.next(400)
		x := nand.Event{Op: op, Kind: nand.Crash, Left: left(op)}
		switch n := d.next(10); {
		case n == 0 && dies == 0:
			x = nand.Event{Op: op, Kind: nand.Die, Chip: d.next(chips)}
			dies++
		case n == 1 && fails == 0:
			x.Kind = nand.Fail
			fails++
		}
		l = append(l, x)
	}
	return l
}

// P21.3, P21.4, P21.5, P16.5, P5: all that may come at once, on shapes of all kinds, with blocks that are bad from the beginning.
func TestMuchAtOnce(t *testing.T) {
	shapes := []api.Geo{small, least, some, broad, {Chips: 3, Blocks: 20, Pages: 16, Size: 256}, {Chips: 16, Blocks: 20, Pages: 4, Size: 256}, {Chips: 7, Blocks: 22, Pages: 5, Size: 448}}
	each(t, "part", 200, 1, func(t *testing.T, n int) {
		d := dice(n * 977)
		g := shapes[d.next(len(shapes))]
		var bad [][2]int
		for c := range g.Chips + 1 {
			for range d.next(3) {
				bad = append(bad, [2]int{c, d.next(g.Blocks)})
			}
		}
		a, e := nand.New(g, bad, d.events(g.Chips+1)...)
		if e != api.OK {
			t.Fatal(e)
		}
		r := begin(t, fmt.Sprint("by chance ", n, ":"), a, d)
		r.ticks = n%2 == 0
		for range 10 {
			r.live(12)
			r.do(order{word: "store"})
			r.do(order{word: "check"})
		}
		r.ends()
	})
}

package console_test

import (
	"fmt"
	"strings"
	"testing"

	"gabion/api"
	"gabion/console"
)

// life is a player to whose chips something comes, and what its file system must be.
type life struct {
	t     *testing.T
	what  string
	p     *console.Player
	m     *model   // what it is
	past  []*model // what it was when it was synced, and behind each change since
	dice  dice
	chips int  // how many there are
	reset int  // how often the power went
	back  int  // how many changes weren't there then
	ticks bool // a dead member is made anew, meanwhile
}

// begin: a player with a new file system; these orders tell what comes. What the power cuts off is done again.
func begin(t *testing.T, what string, m *model, seed dice, lines ...string) *life {
	t.Helper()
	r := &life{t: t, what: what, p: &console.Player{}, m: m, past: []*model{m.copied()}, dice: seed, chips: 4}
	for _, s := range append([]string{first}, lines...) {
		play(t, r.p, s+" = ok")
	}
	if is := r.tell("format"); is == "error 72" {
		// What came is gone with the chips to which it came.
		play(t, r.p, "list / = error 61", "boot = ok", "format = ok")
	} else if is != "ok" {
		t.Fatal(what, "format", is)
	}
	return r
}

// tell: what a line answers.
func (r *life) tell(line string) string {
	r.t.Helper()
	return r.p.Do(order(r.t, line))
}

// live does so many orders, and a sync.
func (r *life) live(many int) {
	r.t.Helper()
	for range many {
		r.do(r.dice.order(r.m, 9000))
		if r.ticks {
			r.tick()
		}
	}
	r.do(order(r.t, "sync"))
}

// do does one; if the power goes, it comes again.
func (r *life) do(o console.Order) {
	r.t.Helper()
	got := r.p.Do(o)
	if got == "error 28" {
		return
	}
	c := r.m.copied()
	c.open = r.m.open
	want := c.answer(o)
	// What was cut off may be there; and what waits can be looked at without the power.
	if got == "error 72" || o.Word == "walk" && got != want {
		r.past = append(r.past, c)
		r.boot()
		return
	}
	// How much there was to put right hangs on what the power left.
	if got != want && !(o.Word == "scrub" && strings.HasPrefix(got, "scrubbed ")) {
		r.t.Fatal(r.what, o.Show(), got, "want", want)
	}
	r.m = c
	switch {
	case got != "ok":
	case o.Word == "sync" || o.Word == "fsync":
		r.past = []*model{c.copied()}
	case changes(o.Word):
		r.past = append(r.past, c)
	}
}

// tick is one step of making a dead member anew; where there is none in reserve, there is none.
func (r *life) tick() {
	r.t.Helper()
	switch is := r.tell("tick 1"); is {
	case "full 0", "full 1", "error 61", "error 71":
	case "error 72":
		r.boot()
	default:
		r.t.Fatal(r.what, "tick", is)
	}
}

// mount: the file system is, as often as the power goes meanwhile.
func (r *life) mount() {
	r.t.Helper()
	for {
		play(r.t, r.p, "boot = ok")
		is := r.tell("mount")
		if is == "ok" {
			return
		}
		if is != "error 72" {
			r.t.Fatal(r.what, "mount", is)
		}
		play(r.t, r.p, "list / = error 61")
	}
}

// boot: the power comes again: the tree is that of the last sync, and some of the first changes since.
func (r *life) boot() {
	r.t.Helper()
	r.reset++
	r.survives(r.dice.next(r.chips))
	r.mount()
	n := r.found(r.p)
	r.back += len(r.past) - 1 - n
	r.m = r.past[n].copied()
	r.past = []*model{r.m.copied()}
}

// found: how many changes since the last sync are there, on a copy of a player's chips, to which nothing comes.
func (r *life) found(p *console.Player, lines ...string) int {
	r.t.Helper()
	q := *p
	play(r.t, &q, "copy = ok", "boot = ok")
	for _, s := range lines {
		play(r.t, &q, s+" = ok")
	}
	play(r.t, &q, "mount = ok")
	is := look(q.Do)
	for n := len(r.past) - 1; n >= 0; n-- {
		c := r.past[n].copied()
		if look(c.answer) == is {
			play(r.t, &q, fmt.Sprint("check = check 0 ", c.many(1)), "mend = mended 0")
			return n
		}
	}
	r.t.Fatal(r.what, lines, "it is\n", is, "and was none of", len(r.past), "the last of which is\n", look(r.m.copied().answer))
	return 0
}

// survives: all is there, if this chip is dead, too.
func (r *life) survives(chip int) {
	r.t.Helper()
	q := *r.p
	play(r.t, &q, "copy = ok", "boot = ok", "mount = ok")
	if q.Do(order(r.t, "full")) == "full 1" {
		r.found(r.p, fmt.Sprint("kill ", chip))
	}
}

// ends: all is there; and when all members were made anew, whichever chip dies then.
func (r *life) ends() {
	r.t.Helper()
	r.past = []*model{r.m}
	r.found(r.p)
	play(r.t, r.p, "copy = ok", "boot = ok", "mount = ok")
	if is := r.tell("tick 200"); is == "error 61" {
		return
	} else if is != "full 1" {
		r.t.Fatal(r.what, "tick", is)
	}
	for c := range r.chips {
		r.found(r.p, fmt.Sprint("kill ", c))
	}
}

// length is how many orders a life has.
const length = 120

// small is the shape of a life.
var small = api.Geo{Chips: 3, Blocks: 24, Pages: 8, Size: 256}

// plain: how many operations of the chips a life takes to which nothing comes, or a chip is dead.
func plain(t *testing.T, seed dice, lines ...string) int {
	t.Helper()
	r := begin(t, "plain:", modelOf(t, small), seed, lines...)
	r.live(length)
	n := counted(t, r.p)
	r.ends()
	return n
}

// each calls a test for each step-th operation of a life, some of them side by side.
func each(t *testing.T, to, step int, test func(t *testing.T, op int) *life) {
	const parts = 8
	for part := range parts {
		t.Run(fmt.Sprint("part ", part), func(t *testing.T) {
			t.Parallel()
			resets, back := 0, 0
			for op := 1 + part*step; op <= to; op += parts * step {
				r := test(t, op)
				r.ends()
				resets, back = resets+r.reset, back+r.back
			}
			t.Log("the power went", resets, "times; these weren't there:", back)
		})
	}
}

// P3: the power goes at an operation of the chips, and again soon behind: the tree is that of the last sync, and some of the first changes since; also if a chip is dead then.
func TestCrashes(t *testing.T) {
	seed := dice(1)
	each(t, plain(t, seed), 1, func(t *testing.T, op int) *life {
		lines := []string{fmt.Sprintf("crash %d %d", op, op), fmt.Sprint("crash ", op+1+op%491)}
		r := begin(t, fmt.Sprint("a crash at ", op, ":"), modelOf(t, small), seed, lines[:1+op%2]...)
		r.live(length)
		return r
	})
}

// P4: any one chip dies, at an operation, and the power goes soon behind; members are made anew meanwhile, or at last; then any other one may die.
func TestChipDies(t *testing.T) {
	seed := dice(2)
	to := plain(t, seed)
	each(t, to, 3, func(t *testing.T, op int) *life {
		lines := []string{fmt.Sprintf("die %d %d", op, op/3%4), fmt.Sprintf("crash %d 255", op+1+op%97)}
		r := begin(t, fmt.Sprint(lines, ":"), modelOf(t, small), seed, lines[:1+op%2]...)
		r.ticks = op%4 > 1
		r.live(length)
		return r
	})
}

// P4: when all members were made anew, any other one dies.
func TestAnotherChipDies(t *testing.T) {
	for one := range 4 {
		for other := range 4 {
			r := begin(t, fmt.Sprint("chips ", one, " and ", other, ":"), modelOf(t, small), dice(one))
			r.live(length / 2)
			play(t, r.p, fmt.Sprint("kill ", one, " = ok"), "mount = ok", "tick 200 = full 1", fmt.Sprint("kill ", other, " = ok"), "mount = ok")
			r.m.open = [16]place{}
			r.live(length / 2)
			r.ends()
		}
	}
}

// P5: blocks that fail, and are bad from the beginning, change no answer.
func TestBlocksFail(t *testing.T) {
	seed := dice(3)
	each(t, plain(t, seed), 5, func(t *testing.T, op int) *life {
		d := dice(op)
		lines := []string{fmt.Sprintf("fail %d 9", op), fmt.Sprint("fail ", op+1+op%7), fmt.Sprintf("crash %d 1", op+2+op%101)}[:1+op%3]
		for c := range 4 {
			if d.next(2) == 0 {
				lines = append(lines, fmt.Sprintf("bad %d %d", c, d.next(24)))
			}
		}
		r := begin(t, fmt.Sprint(lines, ":"), modelOf(t, small), seed, lines...)
		r.live(length)
		if op%3 < 2 && r.reset > 0 {
			t.Error(r.what, "the power went")
		}
		return r
	})
}

// P3, P4, P5: all of it at once.
func TestMuchComes(t *testing.T) {
	each(t, 160, 1, func(t *testing.T, n int) *life {
		d := dice(n * 331)
		var lines []string
		op, dies, fails := 100, 0, 0
		for range d.next(30) {
			op += 1 + d.next(300)
			switch x := d.next(10); {
			case x == 0 && dies == 0:
				lines = append(lines, fmt.Sprintf("die %d %d", op, d.next(4)))
				dies++
			case x == 1 && fails < 2:
				lines = append(lines, fmt.Sprintf("fail %d %d", op, x))
				fails++
			default:
				lines = append(lines, fmt.Sprintf("crash %d %d %d", op, d.next(256), x))
			}
		}
		r := begin(t, fmt.Sprint(n, " ", lines, ":"), modelOf(t, small), d, lines...)
		r.ticks = n%2 == 0
		for range 6 {
			r.live(25)
		}
		return r
	})
}

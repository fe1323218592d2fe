package vol_test

import (
	"bytes"
	"fmt"
	"testing"

	"gabion/api"
	"gabion/nand"
	"gabion/vol"
)

// step is what is done to a virtual block: its next page is programmed, or it is erased.
type step struct {
	block int
	erase bool
}

// steps is what the tests below do: blocks are filled, erased and filled again, the first and the last among them.
func steps() []step {
	return []step{{block: 0}, {block: 0}, {block: 10}, {block: 0}, {block: 4}, {block: 4}, {block: 0, erase: true}, {block: 0}, {block: 4}, {block: 10, erase: true}, {block: 4}, {block: 0}, {block: 10}}
}

// run is a volume to which steps are done, and what it must hold.
type run struct {
	t      *testing.T
	what   string
	a      *nand.Array
	v      *vol.Vol
	reopen bool             // behind a crash the chip is opened again; else the volume goes on
	holds  map[int][][]byte // rows of each virtual block; nil: what a crash left, nobody knows
	broken map[int]bool     // virtual blocks that were just being changed: what stands behind their pages nobody knows
	seed   int
}

// begin: a run on chip 0 of an array, formatted. What a crash cuts off is formatted again.
func begin(t *testing.T, what string, a *nand.Array, reopen bool) *run {
	t.Helper()
	r := &run{t: t, what: what, a: a, reopen: reopen, holds: map[int][][]byte{}, broken: map[int]bool{}}
	for {
		v, e := vol.Format(a, 0)
		if e == api.OK {
			r.v = v
			return r
		}
		if e != api.Crash {
			t.Fatal(what, "Format:", e)
		}
		a.Boot()
	}
}

// boot: the power comes again.
func (r *run) boot() {
	r.t.Helper()
	r.a.Boot()
	r.check()
	for r.reopen {
		v, e := vol.Open(r.a, 0)
		if e == api.OK {
			r.v = v
			return
		}
		if e != api.Crash {
			r.t.Fatal(r.what, "Open:", e)
		}
		r.a.Boot()
	}
}

// do does a step till it is done: what the power cut off is done again. False: the reserve has ended.
func (r *run) do(s step) bool {
	r.t.Helper()
	for {
		e := r.try(s)
		switch e {
		case api.OK:
			delete(r.broken, s.block)
			return true
		case api.Crash:
			r.broken[s.block] = true
			if s.erase {
				r.holds[s.block] = nil
			}
			r.boot()
		case api.Order: // the crash left something in the page: the one behind it is the next
			if !r.broken[s.block] {
				r.t.Fatal(r.what, s, e)
			}
			delete(r.broken, s.block)
			r.holds[s.block] = append(r.holds[s.block], nil)
			if len(r.holds[s.block]) == small.Pages {
				return true
			}
		case api.Fail:
			return false
		default:
			r.t.Fatal(r.what, s, e)
		}
	}
}

// try does a step.
func (r *run) try(s step) api.Errno {
	if s.erase {
		e := r.v.Erase(s.block)
		if e == api.OK {
			r.holds[s.block] = nil
		}
		return e
	}
	if len(r.holds[s.block]) == small.Pages {
		return api.OK
	}
	r.seed++
	data, oob := page(r.seed)
	e := r.v.Program(s.block, len(r.holds[s.block]), data, oob)
	if e == api.OK {
		r.holds[s.block] = append(r.holds[s.block], append(data, oob...))
	}
	return e
}

// check: does the chip hold what it must, where the volume says, and when it is opened again?
func (r *run) check() {
	r.t.Helper()
	c := r.a.Copy() // by itself, so that no operation of the run's is taken
	c.Boot()
	o, e := vol.Open(c, 0)
	if e != api.OK {
		r.t.Fatal(r.what, "opened:", e)
	}
	erased := bytes.Repeat([]byte{255}, small.Size+api.Oob)
	for b, place := range r.v.Table().Place {
		for p := range small.Pages {
			want := erased
			if rows := r.holds[b]; p < len(rows) {
				want = rows[p]
			} else if r.broken[b] {
				continue
			}
			if want == nil {
				continue
			}
			data, oob, e := o.Read(b, p)
			if e != api.OK || !bytes.Equal(append(data, oob...), want) {
				r.t.Fatal(r.what, "opened: page", p, "of", b, "is another one:", e)
			}
			data, oob, e = c.Read(0, place, p)
			if e != api.OK || !bytes.Equal(append(data, oob...), want) {
				r.t.Fatal(r.what, "page", p, "of", b, "is another one:", e)
			}
		}
	}
}

// all does all steps, as far as the reserve lets it, and checks what is there then.
func (r *run) all() bool {
	r.t.Helper()
	for _, s := range steps() {
		if !r.do(s) {
			// What fails may be gone, if it was to be erased; all else is there.
			if s.erase {
				r.holds[s.block] = nil
			}
			r.broken[s.block] = true
			r.check()
			return false
		}
	}
	r.check()
	return true
}

// plain is how many operations a run takes for which nothing comes.
func plain(t *testing.T) int {
	t.Helper()
	r := begin(t, "plain", chips(t, nil), false)
	r.all()
	return r.a.Ops()
}

// named: what comes, as a text for what is told.
func named(l []nand.Event) string {
	s := "with"
	for _, x := range l {
		s += fmt.Sprint(" ", []string{"none", "Fail", "Crash", "Die"}[x.Kind], " at ", x.Op)
	}
	return s
}

// left: what a crash, or a failure, may leave: noughts, what looks erased, something else.
func left(n int) []byte {
	return [][]byte{nil, {255}, {1, 2, 3}}[n%3]
}

// P7.2: one block fails, at any operation: nothing is to be seen of it. Then two, then three.
func TestFailsAnywhere(t *testing.T) {
	n := plain(t)
	for i := 1; i <= n; i++ {
		one := nand.Event{Op: i, Kind: nand.Fail, Left: left(i)}
		for j := i; j <= n+10; j++ {
			two := nand.Event{Op: j, Kind: nand.Fail, Left: left(j)}
			for _, k := range []int{j, j + 1, j + 2, j + 3, j + 7} {
				events := []nand.Event{one, two, {Op: k, Kind: nand.Fail}}
				if r := begin(t, named(events), chips(t, nil, events...), false); !r.all() {
					t.Fatal(r.what, "the reserve ended")
				}
			}
		}
	}
}

// P7.2, P7.3: more blocks fail than there are in reserve: what was there ahead of that is there.
func TestFailsTooOften(t *testing.T) {
	n, ended := plain(t), 0
	for i := formatted + 1; i <= n; i++ {
		for _, d := range [][4]int{{1, 2, 3, 4}, {1, 2, 4, 6}, {1, 3, 5, 8}, {2, 4, 6, 8}, {3, 4, 5, 6}, {2, 3, 4, 5}, {4, 8, 12, 16}, {2, 5, 6, 9}} {
			events := []nand.Event{{Op: i, Kind: nand.Fail}}
			for _, x := range d {
				events = append(events, nand.Event{Op: i + x, Kind: nand.Fail, Left: left(x)})
			}
			if !begin(t, named(events), chips(t, nil, events...), false).all() {
				ended++
			}
		}
	}
	if ended == 0 {
		t.Error("the reserve never ended")
	}
}

// P7.3: the power goes at any operation, with each that a crash may leave: what was programmed ahead is there; all goes on, and at another operation it goes once more.
func TestCrashesAnywhere(t *testing.T) {
	n := plain(t)
	for i := 1; i <= n; i++ {
		for kind := range 3 {
			for _, d := range []int{0, 1, 2, 5, 20, 61, 64, 66} {
				for _, reopen := range []bool{false, true} {
					events := []nand.Event{{Op: i, Kind: nand.Crash, Left: left(kind)}, {Op: i + d, Kind: nand.Crash, Left: left(kind + d)}}
					if r := begin(t, named(events), chips(t, nil, events...), reopen); !r.all() {
						t.Fatal(r.what, "the reserve ended")
					}
				}
			}
		}
	}
}

// P7.3: the power goes at any operation while a block is replaced, and while the table is saved; then another block fails.
func TestCrashesWhileReplaced(t *testing.T) {
	n := plain(t)
	for i := formatted + 1; i <= n; i++ {
		for j := 1; j <= 12; j++ {
			for _, reopen := range []bool{false, true} {
				events := []nand.Event{{Op: i, Kind: nand.Fail, Left: left(j)}, {Op: i + j, Kind: nand.Crash, Left: left(i)}, {Op: i + j + 62, Kind: nand.Fail}, {Op: i + j + 66, Kind: nand.Crash}}
				for more := range 4 {
					l := events
					if more > 0 { // a second one fails just ahead of the crash
						l = append([]nand.Event{{Op: i + max(j-more, 1), Kind: nand.Fail}}, events...)
					}
					if r := begin(t, named(l), chips(t, nil, l...), reopen); !r.all() {
						t.Fatal(r.what, "the reserve ended")
					}
				}
			}
		}
	}
}

// P7.3: a chip is opened again behind each step; one that is opened twice is the same.
func TestOpenedBehindEachStep(t *testing.T) {
	n := plain(t)
	for i := formatted + 1; i <= n+61*len(steps()); i += 3 {
		events := []nand.Event{{Op: i, Kind: nand.Fail}, {Op: i + 2, Kind: nand.Fail}, {Op: i + 70, Kind: nand.Fail}}
		r := begin(t, named(events), chips(t, nil, events...), true)
		for _, s := range steps() {
			if !r.do(s) {
				t.Fatal(r.what, "the reserve ended")
			}
			was := r.v.Table()
			r.v = opened(t, r.a, 0)
			if !same(r.v.Table(), was) {
				t.Fatal(r.what, "another table:", r.v.Table(), "want", was)
			}
			r.check()
		}
	}
}

// P5 of the whole: bad blocks from the beginning, and some that fail, change no answer.
func TestBadBlocksChangeNoAnswer(t *testing.T) {
	n := plain(t)
	for bad := range 16 {
		for i := formatted + 1; i <= n; i += 2 {
			events := []nand.Event{{Op: i, Kind: nand.Fail}, {Op: i + 4, Kind: nand.Fail}}
			if r := begin(t, named(events), chips(t, [][2]int{{0, bad}, {1, 3}}, events...), false); !r.all() {
				t.Fatal(r.what, "the reserve ended")
			}
		}
	}
}

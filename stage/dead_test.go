package stage_test

import (
	"slices"
	"testing"

	"gabion/api"
	"gabion/parity"
	"gabion/record"
	"gabion/stage"
	"gabion/stripe"
)

// P11.2, P4: any one member is dead, ahead of a Put or behind it.
func TestDead(t *testing.T) {
	for _, g := range shapes {
		for m := range g.Chips {
			d := newMembers(g)
			l := put(t, d, 0, room(g))
			d.dead[m] = true
			gets(t, "dead behind it:", d, 0, l)
			ahead := newMembers(g)
			ahead.dead[m] = true
			l = put(t, led{ahead, m}, 1, room(g))
			gets(t, "dead ahead of it:", ahead, 1, l)
			if len(ahead.done) != 2*room(g) {
				t.Error(g, m, "isn't asked:", len(ahead.done))
			}
		}
	}
}

// P11.2: one is dead from some page on.
func TestDeadBetween(t *testing.T) {
	g := shapes[2]
	for m := range g.Chips {
		for many := range room(g) {
			d := newMembers(g)
			l := put(t, d, 0, many)
			d.dead[m] = true
			for n := many; n < room(g); n++ {
				p := page(g, n)
				if e := stage.Put(d, 0, n, p); e != api.OK {
					t.Error(m, many, n, e)
				}
				l = append(l, p)
			}
			gets(t, "one dies between:", d, 0, l)
		}
	}
}

// P11.1: both of a page's members are dead, or two of others.
func TestTwoDead(t *testing.T) {
	for _, g := range shapes[:3] {
		for a := range g.Chips {
			for b := range a {
				d := newMembers(g)
				l := put(t, d, 0, room(g))
				d.dead[a], d.dead[b] = true, true
				for n := range l {
					both := b%2 == 0 && a == b+1
					_, m, _ := stage.Spot(g, n)
					d.done = nil
					e := stage.Put(d, 1, n, l[n])
					if both && m == b {
						if e != api.Lost || len(d.done) != 2 {
							t.Error(g, a, b, n, "Put:", e, d.done)
						}
						isNot(t, "both are dead:", d, 0, n, api.IO)
					} else if p, is := stage.Get(d, 0, n); e != api.OK || is != api.OK || !same(p, l[n]) {
						t.Error(g, a, b, n, e, is)
					}
				}
			}
		}
		d := newMembers(g)
		l := put(t, d, 0, 2)
		d.dead[0], d.dead[1] = true, true
		if g.Chips > 3 {
			gets(t, "the first page's members are dead:", d, 0, nil)
			isNot(t, "both are dead:", d, 0, 0, api.IO)
			if p, e := stage.Get(d, 0, 1); e != api.OK || !same(p, l[1]) {
				t.Error(g, e)
			}
		}
	}
}

// P11.1, P11.2: one copy of a page is spoilt, at any byte of it and beside it.
func TestOneSpoilt(t *testing.T) {
	d := newMembers(least)
	l := put(t, d, 0, room(least))
	for m := range 2 {
		for i := range least.Size + api.Oob {
			at := place{m, 4, 2}
			d.spoil(at, i)
			gets(t, "one copy is spoilt:", d, 0, l)
			d.dead[1-m] = true
			isNot(t, "one is spoilt, the other one dead:", d, 0, 2, api.IO)
			if got, e := stage.All(d, 0); e != api.OK || !slices.EqualFunc(got, l[:2], same) {
				t.Error(m, i, len(got), e)
			}
			d.dead[1-m] = false
			d.spoil(at, i)
		}
	}
	gets(t, "as it was:", d, 0, l)
	for m := range 2 {
		at := place{m, 4, 1}
		was := d.pages[at]
		delete(d.pages, at)
		gets(t, "one copy is erased:", d, 0, l)
		d.pages[at] = was
	}
}

// P11.1: both copies of a page are spoilt, in the middle of others: it isn't got, those behind it are, but one by one alone.
func TestBothSpoilt(t *testing.T) {
	for _, g := range shapes[:3] {
		for bad := range room(g) {
			d := newMembers(g)
			l := put(t, d, 1, room(g))
			row, m, _ := stage.Spot(g, bad)
			d.spoil(place{m, 5, row}, bad)
			d.spoil(place{m + 1, 5, row}, g.Size+bad)
			for n := range l {
				if n == bad {
					isNot(t, "both copies are spoilt:", d, 1, n, api.IO)
				} else if p, e := stage.Get(d, 1, n); e != api.OK || !same(p, l[n]) {
					t.Error(g, bad, n, e)
				}
			}
			if got, e := stage.All(d, 1); e != api.OK || !slices.EqualFunc(got, l[:bad], same) {
				t.Error(g, bad, len(got), e)
			}
		}
	}
}

// P11.1: the first of both that is sealed is the page, whatever the other one is.
func TestFirstOfBoth(t *testing.T) {
	d := newMembers(least)
	put(t, d, 0, 1)
	other := page(least, 77)
	for m := range 2 {
		x := d.pages[place{m, 4, 0}]
		copy(x.Data, other.Data)
		copy(x.Oob, record.Seal(other.Head, other.Data, sample(32, 5)))
		want := []stripe.Page{other, other}[m]
		if p, e := stage.Get(d, 0, 0); e != api.OK || !same(p, want) {
			t.Error(m, e, p.Head)
		}
		d = newMembers(least)
		put(t, d, 0, 1)
		if m == 0 {
			x := d.pages[place{1, 4, 0}]
			copy(x.Data, other.Data)
			copy(x.Oob, record.Seal(other.Head, other.Data, nil))
			if p, e := stage.Get(d, 0, 0); e != api.OK || !same(p, page(least, 0)) {
				t.Error("the second one is another:", e, p.Head)
			}
			d.dead[0] = true
		}
	}
}

// P11.1: other errors of what pages stand on come through, of either member, also where the other one is dead.
func TestOtherErrors(t *testing.T) {
	g := shapes[1]
	for _, want := range append(others, api.IO) {
		for m := range 2 {
			for _, dead := range []bool{false, true} {
				d := newMembers(g)
				l := put(t, d, 0, 3)
				d.wrong[m] = want
				d.dead[1-m] = dead
				if e := stage.Put(d, 1, 0, l[0]); e != want {
					t.Error(want, m, dead, "Put:", e)
				}
				if m == 1 && !dead {
					gets(t, "the first has it:", d, 0, l)
					continue
				}
				isNot(t, "another error:", d, 0, 0, want)
				if p, e := stage.Get(d, 0, 1); e != api.OK || !same(p, l[1]) {
					t.Error(want, m, dead, "another pair:", e)
				}
				if got, e := stage.All(d, 0); want != api.IO && (e != want || len(got) > 0) {
					t.Error(want, m, dead, "All:", len(got), e)
				}
			}
		}
	}
}

// P11.1: an error ends a Put where it is met; and behind pages that are right, All answers none of them.
func TestErrorEnds(t *testing.T) {
	g := shapes[1]
	for _, want := range others {
		d := newMembers(g)
		l := put(t, d, 0, 4)
		d.wrong[0] = want
		d.done = nil
		if e := stage.Put(d, 1, 0, l[0]); e != want || len(d.done) != 1 {
			t.Error(want, e, d.done)
		}
		d.done = nil
		if e := stage.Put(led{d, 1}, 1, 0, l[0]); e != want || len(d.done) != 2 {
			t.Error(want, "ahead:", e, d.done)
		}
		d.wrong = map[int]api.Errno{2: want}
		if got, e := stage.All(d, 0); e != want || len(got) > 0 {
			t.Error(want, "behind a page that is right:", len(got), e)
		}
	}
	d := newMembers(g)
	l := put(t, d, 0, 1)
	if e := stage.Put(d, 0, 0, l[0]); e != api.Order {
		t.Error("twice:", e)
	}
}

// P11.1: a page that one member has, and behind which the next was never put.
func TestOneCopyAlone(t *testing.T) {
	d := newMembers(least)
	l := put(t, d, 0, 2)
	p := page(least, 2)
	d.pages[place{1, 4, 2}] = sealed(p)
	gets(t, "the last has one copy:", d, 0, append(l, p))
}

// sealed: a page as it stands.
func sealed(p stripe.Page) parity.Page {
	return parity.Page{Data: p.Data, Oob: record.Seal(p.Head, p.Data, nil)}
}

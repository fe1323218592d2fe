package nand

import (
	"bytes"
	"slices"

	"gabion/api"
)

// blank is what an erased page's bytes are.
const blank = 255

// Read: a page's bytes, and those beside it.
func (a *Array) Read(chip, b, p int) (data, oob []byte, e api.Errno) {
	k, x, e := a.begin(chip, b)
	switch {
	case e != api.OK:
		return nil, nil, e
	case x.Kind == Crash:
		return nil, nil, api.Crash
	case p < 0 || p >= len(k.pages):
		return nil, nil, api.Range
	}
	row := k.pages[p]
	if row == nil {
		row = a.row(blank)
	}
	return bytes.Clone(row[:a.geo.Size]), bytes.Clone(row[a.geo.Size:]), api.OK
}

// Program: the next page of a block gets its bytes.
func (a *Array) Program(chip, b, p int, data, oob []byte) api.Errno {
	k, x, e := a.begin(chip, b)
	if e != api.OK {
		return e
	}
	fits := p >= 0 && p < len(k.pages) && len(data) == a.geo.Size && len(oob) == api.Oob
	if x.Kind == Crash {
		if fits && !k.bad && p == k.next {
			k.put(a.row(x.Left...))
		}
		return api.Crash
	}
	switch {
	case !fits:
		return api.Range
	case k.bad:
		return api.Fail
	case p != k.next:
		return api.Order
	case x.Kind == Fail:
		k.put(a.row(x.Left...))
		k.bad = true
		return api.Fail
	}
	k.put(slices.Concat(data, oob))
	return api.OK
}

// Erase: a block's pages are erased, its first one is the next.
func (a *Array) Erase(chip, b int) api.Errno {
	k, x, e := a.begin(chip, b)
	if e != api.OK {
		return e
	}
	broken := x.Kind == Crash || x.Kind == Fail
	if broken && !k.bad {
		k.fill(a.row(x.Left...))
	}
	if x.Kind == Crash {
		return api.Crash
	}
	if k.bad || broken {
		k.bad = true
		return api.Fail
	}
	clear(k.pages)
	k.next = 0
	k.erased++
	return api.OK
}

// begin counts an operation: its block and what comes, or the error with which it ends already.
func (a *Array) begin(chip, b int) (*block, Event, api.Errno) {
	if a == nil {
		return nil, Event{}, api.Nil
	}
	if a.off {
		return nil, Event{}, api.Crash
	}
	k := a.at(chip, b)
	if k == nil {
		return nil, Event{}, api.Range
	}
	a.ops++
	x := a.comes[a.ops]
	switch x.Kind {
	case Die:
		a.Kill(x.Chip)
	case Crash:
		a.off = true
	}
	if !a.chips[chip].dead {
		return k, x, api.OK
	}
	if a.off {
		return nil, Event{}, api.Crash
	}
	return nil, Event{}, api.Dead
}

// row: these bytes again and again, as many as a page has and as stand beside it; noughts, if there are none.
func (a *Array) row(left ...byte) []byte {
	l := make([]byte, a.geo.Size+api.Oob)
	for n := 0; len(left) > 0 && n < len(l); {
		n += copy(l[n:], left)
	}
	return l
}

// put: the next page has these bytes.
func (k *block) put(row []byte) {
	k.pages[k.next] = row
	k.next++
}

// fill: all pages have these bytes.
func (k *block) fill(row []byte) {
	for p := range k.pages {
		k.pages[p] = row
	}
	k.next = len(k.pages)
}

package array

import (
	"gabion/api"
	"gabion/geom"
	"gabion/member"
	"gabion/parity"
	"gabion/record"
	"gabion/stripe"
	"gabion/vol"
)

// Tick: a step of making the dead member's blocks anew, on the chip in reserve: that is made ready; a block; behind the last one it is the member. Are all members there?
func (x *Array) Tick() (bool, api.Errno) {
	switch {
	case x.none():
		return false, api.Nil
	case x.lost:
		return false, api.Lost
	case x.set.Full():
		return true, api.OK
	case x.set.Spare == member.None:
		return false, api.State
	}
	if e := x.step(); e != api.OK {
		return false, e
	}
	if e := x.save(); e != api.OK {
		return false, e
	}
	return x.set.Full(), api.OK
}

// step: the chip in reserve is made ready, or gets the next block; one that has all is the member.
func (x *Array) step() api.Errno {
	chip := x.set.Spare
	if x.set.Done == 0 {
		v, e := vol.Format(x.chips, chip)
		x.vols[chip] = v
		if e != api.OK {
			return x.heard(chip, e)
		}
		// The blocks ahead of it hold sets, that are saved, not made anew.
		x.set.Done = geom.Points
		return api.OK
	}
	if e := x.renew(x.set.Done); e != api.OK {
		return e
	}
	x.set.Done++
	if x.set.Done == x.Geo().Virtual() {
		x.set.Chips[x.set.Dead] = chip
		x.set.Spare, x.set.Dead, x.set.Done = member.None, member.None, 0
	}
	return api.OK
}

// renew: the chip in reserve gets a block of the dead member, as far as its rows can be made, one behind the other.
func (x *Array) renew(b int) api.Errno {
	chip := x.set.Spare
	v := x.vols[chip]
	if e := v.Erase(b); e != api.OK {
		return x.heard(chip, e)
	}
	for row := range geom.Rows(x.Geo(), b) {
		p, ok, e := x.made(b, row)
		if e != api.OK {
			return e
		}
		if !ok {
			break
		}
		if e := v.Program(b, row, p.Data, p.Oob); e != api.OK {
			return x.heard(chip, e)
		}
	}
	return api.OK
}

// made: the dead member's page of a row; false: it can't be made.
func (x *Array) made(b, row int) (parity.Page, bool, api.Errno) {
	if b >= geom.Stages && b < geom.First {
		return x.copied(b, row)
	}
	l, is, e := stripe.Row(x, b, row)
	if e != api.OK || is != stripe.Whole {
		return parity.Page{}, false, e
	}
	return laid(x.Geo(), b, row, x.set.Dead, l), true, api.OK
}

// copied: the page of the other one of the dead member's pair; false: there is no other one, or nothing was staged there. (One that isn't sealed is taken as it is: without it none of those behind could follow.)
func (x *Array) copied(b, row int) (parity.Page, bool, api.Errno) {
	// Pairs are 0 and 1, 2 and 3, ..: of an odd count of members the last one has none.
	other := x.set.Dead ^ 1
	if other >= x.Geo().Chips {
		return parity.Page{}, false, api.OK
	}
	data, oob, e := x.Read(other, b, row)
	if e != api.OK || record.Blank(data, oob) {
		return parity.Page{}, false, e
	}
	return parity.Page{Data: data, Oob: oob}, true, api.OK
}

// laid: what a member gets of a stripe, as layer 10 writes it.
func laid(g api.Geo, b, row, m int, l []stripe.Page) parity.Page {
	var data []parity.Page
	for _, p := range l {
		data = append(data, parity.Page{Data: p.Data, Oob: record.Seal(p.Head, p.Data, nil)})
	}
	if slot, ok := geom.Slot(g, b, row, m); ok {
		return data[slot]
	}
	first := l[0].Head
	return parity.Of(record.Header{Kind: record.Parity, Epoch: first.Epoch, Batch: first.Batch, Index: uint16(row), Count: uint16(b)}, data...)
}

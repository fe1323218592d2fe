package array

import (
	"slices"

	"gabion/api"
	"gabion/member"
)

// Read: a page of a member's block; Dead: the member is.
func (x *Array) Read(m, b, p int) (data, oob []byte, e api.Errno) {
	if e := x.check(m, b); e != api.OK {
		return nil, nil, e
	}
	if m == x.set.Dead {
		return nil, nil, api.Dead
	}
	chip := x.set.Chips[m]
	data, oob, e = x.vols[chip].Read(b, p)
	return data, oob, x.heard(chip, e)
}

// Program: the next page of a member's block; Dead: the member is. (Of a dead one whose block was made anew the chip in reserve has it all the same.)
func (x *Array) Program(m, b, p int, data, oob []byte) api.Errno {
	if e := x.check(m, b); e != api.OK {
		return e
	}
	chip, there := x.holder(m, b)
	if there {
		if e := x.heard(chip, x.vols[chip].Program(b, p, data, oob)); e != api.OK {
			return e
		}
	}
	if m == x.set.Dead {
		return api.Dead
	}
	return api.OK
}

// Erase: a block of all members.
func (x *Array) Erase(b int) api.Errno {
	if e := x.check(0, b); e != api.OK {
		return e
	}
	for m := range x.set.Chips {
		chip, there := x.holder(m, b)
		if !there {
			continue
		}
		if e := x.pass(chip, x.vols[chip].Erase(b)); e != api.OK {
			return e
		}
	}
	return api.OK
}

// check: may a member's block be asked for?
func (x *Array) check(m, b int) api.Errno {
	if x.none() {
		return api.Nil
	}
	g := x.Geo()
	if m < 0 || m >= g.Chips || b < 0 || b >= g.Virtual() {
		return api.Range
	}
	if x.lost {
		return api.Lost
	}
	return api.OK
}

// holder: the chip that has a member's block: of a dead one, whose block was made anew, that in reserve; false: none has.
func (x *Array) holder(m, b int) (int, bool) {
	if m != x.set.Dead {
		return x.set.Chips[m], true
	}
	return x.set.Spare, b < x.set.Done
}

// heard: what a chip answered, and what becomes of it: one that answers Dead isn't there any longer.
func (x *Array) heard(chip int, e api.Errno) api.Errno {
	if e != api.Dead {
		return e
	}
	x.lose(chip)
	if x.lost {
		return api.Lost
	}
	return api.Dead
}

// pass: likewise, where all goes on without a chip that is dead.
func (x *Array) pass(chip int, e api.Errno) api.Errno {
	if e = x.heard(chip, e); e == api.Dead {
		return api.OK
	}
	return e
}

// lose: a chip isn't there any longer.
func (x *Array) lose(chip int) {
	x.vols[chip] = nil
	if chip == x.set.Spare {
		x.set.Spare, x.set.Done = member.None, 0
		return
	}
	m := slices.Index(x.set.Chips, chip)
	switch {
	case m < 0 || m == x.set.Dead:
	case x.set.Full():
		x.set.Dead, x.set.Done = m, 0
	default:
		x.lost = true
	}
}

package vol

import (
	"slices"

	"gabion/api"
	"gabion/remap"
)

// fill makes a block what it is to be, with a table in which it has its place already.
type fill func(t remap.Table, block int) api.Errno

// Read: a page of a virtual block.
func (v *Vol) Read(b, p int) (data, oob []byte, e api.Errno) {
	at, e := v.place(b)
	if e != api.OK {
		return nil, nil, e
	}
	return v.array.Read(v.chip, at, p)
}

// Erase: a virtual block is erased; one that fails is replaced.
func (v *Vol) Erase(b int) api.Errno {
	if _, e := v.place(b); e != api.OK {
		return e
	}
	return v.keep(b, func(_ remap.Table, at int) api.Errno {
		return v.array.Erase(v.chip, at)
	})
}

// Program: the next page of a virtual block; if the block fails another one takes its pages.
func (v *Vol) Program(b, p int, data, oob []byte) api.Errno {
	was, e := v.place(b)
	if e != api.OK {
		return e
	}
	return v.keep(b, func(_ remap.Table, at int) api.Errno {
		if at != was {
			if e := v.move(was, at, p); e != api.OK {
				return e
			}
		}
		return v.array.Program(v.chip, at, p, data, oob)
	})
}

// move: a block is erased, and gets the first n pages of another one.
func (v *Vol) move(from, to, n int) api.Errno {
	if e := v.array.Erase(v.chip, to); e != api.OK {
		return e
	}
	for p := range n {
		data, oob, e := v.array.Read(v.chip, from, p)
		if e != api.OK {
			return e
		}
		if e := v.array.Program(v.chip, to, p, data, oob); e != api.OK {
			return e
		}
	}
	return api.OK
}

// keep: a virtual block is filled. If another one is its place then, the table is saved.
func (v *Vol) keep(b int, by fill) api.Errno {
	t, e := v.settle(v.table, b, by)
	if e != api.OK || t.Place[b] == v.table.Place[b] {
		return e
	}
	return v.save(t)
}

// save: a table gets the next number and is laid in one of the two blocks for it; the other one holds the table ahead of it till then. Only what is laid whole is the volume's: behind an error it is as it would be opened.
func (v *Vol) save(t remap.Table) api.Errno {
	t.Seq++
	t, e := v.settle(t, -1-int(t.Seq%api.Table), v.lay)
	if e == api.OK {
		v.table = t
	}
	return e
}

// lay: a block is erased, and gets a table's pages.
func (v *Vol) lay(t remap.Table, at int) api.Errno {
	l, e := t.Pages(v.array.Geo())
	if e != api.OK {
		return e
	}
	if e := v.array.Erase(v.chip, at); e != api.OK {
		return e
	}
	for p, x := range l {
		if e := v.array.Program(v.chip, at, p, x.Data, x.Oob); e != api.OK {
			return e
		}
	}
	return api.OK
}

// settle: the block that layer 6's Take names n is filled; as long as that fails the first block in reserve takes its place. The table in which it has that place.
func (v *Vol) settle(t remap.Table, n int, by fill) (remap.Table, api.Errno) {
	for {
		b := block(t, n)
		e := by(t, b)
		if e != api.Fail {
			return t, e
		}
		v.forget(b)
		if t, _, e = t.Take(n); e != api.OK {
			return remap.Table{}, e
		}
	}
}

// block: the one that layer 6's Take names n.
func block(t remap.Table, n int) int {
	if n < 0 {
		return t.Tables[-1-n]
	}
	return t.Place[n]
}

// forget: a block that failed is in reserve no longer.
func (v *Vol) forget(block int) {
	v.table.Spare = slices.DeleteFunc(slices.Clone(v.table.Spare), func(b int) bool { return b == block })
}

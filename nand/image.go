package nand

import (
	"bytes"

	"gabion/api"
	"gabion/cursor"
	"gabion/sum"
)

// sumSize is how many bytes the sum behind an image has.
const sumSize = 4

// Dump: all chips as bytes.
func (a *Array) Dump() []byte {
	if a == nil {
		return nil
	}
	w := &cursor.Writer{}
	w.U32(Magic).U16(uint16(a.geo.Chips), uint16(a.geo.Blocks), uint16(a.geo.Pages), uint16(a.geo.Size))
	for _, c := range a.chips {
		w.U8(flag(c.dead))
		for _, k := range c.blocks {
			k.lay(w)
		}
	}
	return w.U32(sum.Of(w.Bytes())).Bytes()
}

// lay: a block as bytes.
func (k block) lay(w *cursor.Writer) {
	w.U8(flag(k.bad), uint8(k.next)).U32(uint32(k.erased))
	for _, row := range k.pages {
		w.U8(flag(row != nil)).Raw(row)
	}
}

// flag: 1 or 0.
func flag(is bool) uint8 {
	if is {
		return 1
	}
	return 0
}

// Load: the chips of such bytes; nothing is to come.
func Load(b []byte) (*Array, api.Errno) {
	n := len(b) - sumSize
	if n < 0 {
		return nil, api.Form
	}
	if !bytes.Equal((&cursor.Writer{}).U32(sum.Of(b[:n])).Bytes(), b[n:]) {
		return nil, api.Sum
	}
	a := &Array{}
	if e := cursor.Read(b[:n], a.take); e != api.OK {
		return nil, e
	}
	// Asked last: bytes that are no image are told as such, whatever shape they name.
	if e := a.geo.Check(); e != api.OK {
		return nil, e
	}
	return a, api.OK
}

// take: an array is read. Its lists grow as bytes are there for them: the shape is any that fits its bytes.
func (a *Array) take(r *cursor.Reader) {
	demand(r, r.U32() == Magic)
	a.geo = api.Geo{Chips: int(r.U16()), Blocks: int(r.U16()), Pages: int(r.U16()), Size: int(r.U16())}
	for range a.geo.Chips + 1 {
		c := chip{dead: takeFlag(r)}
		for range a.geo.Blocks {
			c.blocks = append(c.blocks, takeBlock(r, a.geo))
		}
		a.chips = append(a.chips, c)
	}
	demand(r, r.Left() == 0)
}

// takeBlock: a block is read.
func takeBlock(r *cursor.Reader, g api.Geo) block {
	k := block{bad: takeFlag(r), next: int(r.U8()), erased: int(r.U32())}
	demand(r, k.next <= g.Pages)
	for p := range g.Pages {
		var row []byte
		if takeFlag(r) {
			demand(r, p < k.next)
			row = r.Raw(g.Size + api.Oob)
		}
		k.pages = append(k.pages, row)
	}
	return k
}

// takeFlag: 1 or 0 is read.
func takeFlag(r *cursor.Reader) bool {
	n := r.U8()
	demand(r, n <= 1)
	return n == 1
}

// demand leaves the reading, if something isn't so: fewer than no bytes can't be taken.
func demand(r *cursor.Reader, so bool) {
	if !so {
		r.Raw(-1)
	}
}

// Same: do two arrays hold the same?
func Same(a, b *Array) bool { return bytes.Equal(a.Dump(), b.Dump()) }

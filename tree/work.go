package tree

import (
	"bytes"

	"gabion/api"
	"gabion/inode"
)

// page is a block as an operation sees it.
type page struct {
	was  []byte // nil: the operation took it; whatever stands there is nobody's, and may be something else behind a crash
	now  []byte
	gone bool // the operation gave it up
}

// changed: must it be written?
func (p page) changed() bool { return !p.gone && !bytes.Equal(p.was, p.now) }

// work is what one operation sees, and changes. It is the tree's when all of it is done.
type work struct {
	t      *Tree
	blocks map[uint32]page
}

// do: an operation changes all that it has to, or, with an error, nothing.
func (t *Tree) do(by func(w *work) api.Errno) api.Errno {
	if t.none() {
		return api.Nil
	}
	w := &work{t: t, blocks: map[uint32]page{}}
	if e := by(w); e != api.OK {
		return e
	}
	return t.take(w)
}

// take: what an operation changed waits from now on. If that would be too much, what waited ahead of it is written first.
func (t *Tree) take(w *work) api.Errno {
	many := len(t.waits)
	for b, p := range w.blocks {
		_, ok := t.waits[b]
		switch {
		case p.changed() && !ok:
			many++
		case p.gone && ok:
			many--
		}
	}
	if many > api.MaxBatch {
		if e := t.Sync(); e != api.OK {
			return e
		}
	}
	for b, p := range w.blocks {
		switch {
		case p.gone:
			delete(t.waits, b)
			t.gone[b] = struct{}{}
		case p.changed():
			delete(t.gone, b)
			t.waits[b] = p.now
		}
	}
	return api.OK
}

// get: a block's bytes. They aren't to be changed.
func (w *work) get(b uint32) ([]byte, api.Errno) {
	if p, ok := w.blocks[b]; ok {
		return p.now, api.OK
	}
	data, e := w.t.block(b)
	if e != api.OK {
		return nil, e
	}
	w.blocks[b] = page{was: data, now: data}
	return data, api.OK
}

// edit: a block has other bytes from one on.
func (w *work) edit(b uint32, at int, data []byte) api.Errno {
	was, e := w.get(b)
	if e != api.OK {
		return e
	}
	p := w.blocks[b]
	p.now = bytes.Clone(was)
	copy(p.now[at:], data)
	w.blocks[b] = p
	return api.OK
}

// bit: in which block a block's bit stands, at which byte; that, and what of it the bit is.
func (w *work) bit(b uint32) (block uint32, at int, is, mask byte, e api.Errno) {
	if int64(b) >= int64(w.t.lay.Blocks) {
		return 0, 0, 0, 0, api.Range
	}
	n, at, bit := w.t.lay.Bit(b)
	data, e := w.get(uint32(n))
	if e != api.OK {
		return 0, 0, 0, 0, e
	}
	return uint32(n), at, data[at], 1 << bit, api.OK
}

// used: is a block marked as in use?
func (w *work) used(b uint32) (bool, api.Errno) {
	_, _, is, mask, e := w.bit(b)
	return is&mask != 0, e
}

// mark: a block is in use, or isn't.
func (w *work) mark(b uint32, used bool) api.Errno {
	block, at, is, mask, e := w.bit(b)
	if e != api.OK {
		return e
	}
	is &^= mask
	if used {
		is |= mask
	}
	return w.edit(block, at, []byte{is})
}

// own: may a file have this block?
func (w *work) own(b uint32) bool {
	return int64(b) >= int64(w.t.lay.First) && int64(b) < int64(w.t.lay.Blocks)
}

// fresh: a new block, that holds noughts: the lowest free one. NoSpc: none is free.
func (w *work) fresh() (uint32, api.Errno) {
	for b := uint32(w.t.lay.First); w.own(b); b++ {
		used, e := w.used(b)
		if e != api.OK {
			return 0, e
		}
		if !used {
			w.blocks[b] = page{now: make([]byte, w.t.lay.Size)}
			return b, w.mark(b, true)
		}
	}
	return 0, api.NoSpc
}

// release: a file's block is given up. (A number that no file's block has is that of nothing that could be.)
func (w *work) release(b uint32) api.Errno {
	if !w.own(b) {
		return api.OK
	}
	w.blocks[b] = page{now: make([]byte, w.t.lay.Size), gone: true}
	return w.mark(b, false)
}

// spot: in which block an inode stands, at which byte; the block's bytes. Range: there is none of this number.
func (w *work) spot(n uint32) (block uint32, at int, data []byte, e api.Errno) {
	b, at, ok := w.t.lay.At(n)
	if !ok {
		return 0, 0, nil, api.Range
	}
	data, e = w.get(uint32(b))
	return uint32(b), at, data, e
}

// node: an inode.
func (w *work) node(n uint32) (inode.Inode, api.Errno) {
	_, at, data, e := w.spot(n)
	if e != api.OK {
		return inode.Inode{}, e
	}
	return inode.Decode(data[at : at+inode.Size])
}

// setNode: an inode is another one.
func (w *work) setNode(n uint32, x inode.Inode) api.Errno {
	b, at, _, e := w.spot(n)
	if e != api.OK {
		return e
	}
	return w.edit(b, at, x.Encode())
}

// free: is an inode free? One that can't be read isn't.
func (w *work) free(n uint32) (bool, api.Errno) {
	x, e := w.node(n)
	if e == api.Form {
		return false, api.OK
	}
	return e == api.OK && x.Kind == inode.Free, e
}

// newNode: the lowest free inode. NoSpc: none is free.
func (w *work) newNode() (uint32, api.Errno) {
	for i := range uint32(w.t.lay.Nodes) {
		free, e := w.free(i + 1)
		if e != api.OK {
			return 0, e
		}
		if free {
			return i + 1, api.OK
		}
	}
	return 0, api.NoSpc
}

// space: how many blocks of files are free, and how many inodes.
func (w *work) space() (blocks, nodes int, e api.Errno) {
	for b := uint32(w.t.lay.First); w.own(b); b++ {
		used, e := w.used(b)
		if e != api.OK {
			return 0, 0, e
		}
		if !used {
			blocks++
		}
	}
	for i := range uint32(w.t.lay.Nodes) {
		free, e := w.free(i + 1)
		if e != api.OK {
			return 0, 0, e
		}
		if free {
			nodes++
		}
	}
	return blocks, nodes, api.OK
}

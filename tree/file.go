package tree

import (
	"slices"

	"gabion/api"
	"gabion/bmap"
	"gabion/inode"
)

// ReadAt: so many bytes of a file at a place; at its end fewer.
func (t *Tree) ReadAt(n uint32, at, size int64) ([]byte, api.Errno) {
	var data []byte
	e := t.do(func(w *work) api.Errno {
		if at < 0 || size < 0 || size > api.MaxIO {
			return api.Inval
		}
		x, e := w.file(n)
		if e != api.OK || at >= int64(x.Size) {
			return e
		}
		data, e = w.read(x, at, min(size, int64(x.Size)-at))
		return e
	})
	return data, e
}

// WriteAt: bytes stand in a file at a place.
func (t *Tree) WriteAt(n uint32, at int64, data []byte) api.Errno {
	return t.do(func(w *work) api.Errno {
		if at < 0 || len(data) > api.MaxIO {
			return api.Inval
		}
		x, e := w.file(n)
		if e != api.OK {
			return e
		}
		if at > t.lay.Most()-int64(len(data)) {
			return api.FBig
		}
		if len(data) == 0 {
			return api.OK
		}
		if e := w.write(&x, at, data); e != api.OK {
			return e
		}
		return w.setNode(n, x)
	})
}

// Truncate: a file has so many bytes; new ones are 0.
func (t *Tree) Truncate(n uint32, size int64) api.Errno {
	return t.do(func(w *work) api.Errno {
		if size < 0 {
			return api.Inval
		}
		x, e := w.file(n)
		if e != api.OK {
			return e
		}
		if size > t.lay.Most() {
			return api.FBig
		}
		if e := w.resize(&x, size); e != api.OK {
			return e
		}
		return w.setNode(n, x)
	})
}

// file: an inode that is a file's.
func (w *work) file(n uint32) (inode.Inode, api.Errno) {
	x, e := w.node(n)
	if e != api.OK {
		return inode.Inode{}, e
	}
	switch x.Kind {
	case inode.Folder:
		return inode.Inode{}, api.IsDir
	case inode.Free:
		return inode.Inode{}, api.NoEnt
	}
	return x, api.OK
}

// top: where in an inode a way begins.
func top(x *inode.Inode, way bmap.Way) *uint32 {
	switch way.Deep {
	case 0:
		return &x.Direct[way.At[0]]
	case 1:
		return &x.Single
	}
	return &x.Double
}

// part: the bytes of a file's n-th block; of one that is none noughts.
func (w *work) part(x inode.Inode, n int) ([]byte, api.Errno) {
	way, e := bmap.Find(n, w.t.lay.Size)
	if e != api.OK {
		return nil, e
	}
	b := *top(&x, way)
	for _, i := range way.At[:way.Deep] {
		if b == 0 {
			break
		}
		numbers, e := w.get(b)
		if e != api.OK {
			return nil, e
		}
		b = bmap.Get(numbers, i)
	}
	if b == 0 {
		return make([]byte, w.t.lay.Size), api.OK
	}
	return w.get(b)
}

// read: bytes of a file or of a folder.
func (w *work) read(x inode.Inode, at, size int64) ([]byte, api.Errno) {
	l, e := bmap.Pieces(at, size, w.t.lay.Size)
	if e != api.OK {
		return nil, e
	}
	var data []byte
	for _, p := range l {
		b, e := w.part(x, p.Block)
		if e != api.OK {
			return nil, e
		}
		data = append(data, b[p.From:p.From+p.Size]...)
	}
	return data, api.OK
}

// write: bytes stand in a file or in a folder.
func (w *work) write(x *inode.Inode, at int64, data []byte) api.Errno {
	l, e := bmap.Pieces(at, int64(len(data)), w.t.lay.Size)
	if e != api.OK {
		return e
	}
	for _, p := range l {
		b, e := w.reach(x, p.Block)
		if e != api.OK {
			return e
		}
		if e := w.edit(b, p.From, data[:p.Size]); e != api.OK {
			return e
		}
		data = data[p.Size:]
		at += int64(p.Size)
	}
	x.Size = max(x.Size, uint32(at))
	return api.OK
}

// reach: the number of a file's n-th block; where none is, or none that names it, there are new ones.
func (w *work) reach(x *inode.Inode, n int) (uint32, api.Errno) {
	way, e := bmap.Find(n, w.t.lay.Size)
	if e != api.OK {
		return 0, e
	}
	first := top(x, way)
	b, e := w.have(*first)
	if e != api.OK {
		return 0, e
	}
	*first = b
	for _, i := range way.At[:way.Deep] {
		numbers, e := w.get(b)
		if e != api.OK {
			return 0, e
		}
		next, e := w.have(bmap.Get(numbers, i))
		if e != api.OK {
			return 0, e
		}
		if e := w.edit(b, 0, bmap.Set(numbers, i, next)); e != api.OK {
			return 0, e
		}
		b = next
	}
	return b, api.OK
}

// have: a file's block that is to be written; a new one, if it is none. Form: it can't be a file's.
func (w *work) have(b uint32) (uint32, api.Errno) {
	switch {
	case b == 0:
		return w.fresh()
	case !w.own(b):
		return 0, api.Form
	}
	return b, api.OK
}

// resize: a file or a folder has so many bytes. Blocks without a byte of it are given up.
func (w *work) resize(x *inode.Inode, size int64) api.Errno {
	if size < int64(x.Size) {
		if e := w.cut(x, bmap.Blocks(size, w.t.lay.Size)); e != api.OK {
			return e
		}
		if e := w.blank(x, size); e != api.OK {
			return e
		}
	}
	x.Size = uint32(size)
	return api.OK
}

// blank: what stands behind a place in its block is noughts: more bytes there are to be.
func (w *work) blank(x *inode.Inode, size int64) api.Errno {
	each := int64(w.t.lay.Size)
	n, from := int(size/each), size%each
	if from == 0 {
		return api.OK
	}
	b, e := w.part(*x, n)
	if e != api.OK || !slices.ContainsFunc(b[from:], func(c byte) bool { return c != 0 }) {
		return e
	}
	return w.write(x, size, make([]byte, each-from))
}

// cut: the first blocks of a file stay, so many of them; the others are given up.
func (w *work) cut(x *inode.Inode, keep int64) api.Errno {
	for i := range x.Direct {
		if e := w.prune(&x.Direct[i], 0, keep-int64(i)); e != api.OK {
			return e
		}
	}
	keep -= inode.Direct
	if e := w.prune(&x.Single, 1, keep); e != api.OK {
		return e
	}
	return w.prune(&x.Double, 2, keep-w.below(1))
}

// below: how many blocks of a file a number stands for, so deep.
func (w *work) below(deep int) int64 {
	many := int64(1)
	for range deep {
		many *= int64(w.t.lay.Size / number)
	}
	return many
}

// prune: of the blocks that a number stands for, so deep, the first ones stay, so many of them; if none does it is 0.
func (w *work) prune(b *uint32, deep int, keep int64) api.Errno {
	if *b == 0 || keep >= w.below(deep) {
		return api.OK
	}
	left := false
	if deep > 0 && w.own(*b) {
		var e api.Errno
		if left, e = w.pruneNumbers(*b, deep, keep); e != api.OK {
			return e
		}
	}
	if left {
		return api.OK
	}
	was := *b
	*b = 0
	return w.release(was)
}

// pruneNumbers: likewise of all numbers of a block; is one left?
func (w *work) pruneNumbers(b uint32, deep int, keep int64) (bool, api.Errno) {
	numbers, e := w.get(b)
	if e != api.OK {
		return false, e
	}
	left := false
	each := w.below(deep - 1)
	for i := range w.t.lay.Size / number {
		was := bmap.Get(numbers, i)
		is := was
		if e := w.prune(&is, deep-1, keep-int64(i)*each); e != api.OK {
			return false, e
		}
		if is != was {
			numbers = bmap.Set(numbers, i, is)
		}
		left = left || is != 0
	}
	return left, w.edit(b, 0, numbers)
}

// giveUp: an inode is free, and so are its blocks.
func (w *work) giveUp(n uint32, x inode.Inode) api.Errno {
	if e := w.cut(&x, 0); e != api.OK {
		return e
	}
	return w.setNode(n, inode.Inode{})
}

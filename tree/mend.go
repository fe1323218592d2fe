package tree

import (
	"maps"
	"math"
	"slices"

	"gabion/api"
	"gabion/inode"
)

// Mend changes inodes and marks to what they must be: of each inode its count of names (0: it is given up, and all its blocks); of each block whether it is in use.
func (t *Tree) Mend(links map[uint32]int, used map[uint32]bool) api.Errno {
	if t.none() {
		return api.Nil
	}
	nodes, blocks := slices.Sorted(maps.Keys(links)), slices.Sorted(maps.Keys(used))
	for _, n := range nodes {
		if _, _, ok := t.lay.At(n); !ok || links[n] > math.MaxUint16 {
			return api.Range
		}
	}
	for _, b := range blocks {
		if int64(b) >= int64(t.lay.Blocks) {
			return api.Range
		}
	}
	for _, n := range nodes {
		if e := t.do(func(w *work) api.Errno { return w.mendNode(n, links[n]) }); e != api.OK {
			return e
		}
	}
	for _, b := range blocks {
		if e := t.do(func(w *work) api.Errno { return w.mark(b, used[b]) }); e != api.OK {
			return e
		}
	}
	return api.OK
}

// mendNode: an inode has so many names; without one it is given up. One that can't be read is free; one that is free stays so.
func (w *work) mendNode(n uint32, many int) api.Errno {
	x, e := w.node(n)
	switch {
	case e == api.Form:
		return w.setNode(n, inode.Inode{})
	case e != api.OK:
		return e
	case x.Kind == inode.Free:
		return api.OK
	case many < 1:
		return w.giveUp(n, x)
	}
	x.Links = uint16(many)
	return w.setNode(n, x)
}

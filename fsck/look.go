package fsck

import (
	"slices"

	"gabion/api"
	"gabion/bmap"
	"gabion/dirent"
	"gabion/inode"
	"gabion/names"
	"gabion/tree"
)

// number is how many bytes a block's number has in a block that names others.
const number = 4

// look is what was seen of a tree.
type look struct {
	tree    *tree.Tree
	lay     inode.Layout
	wrong   map[Trouble]struct{}
	paths   []string
	names   map[uint32]int    // of each inode how many names it has
	folders map[uint32]int    // of each folder how many folders it names
	owners  map[uint32]uint32 // of each block who has it
	links   map[uint32]int    // of inodes that say another count of names how many they must say; below 1: they have none
}

// search: all that there is to be seen of a tree.
func search(t *tree.Tree) (*look, api.Errno) {
	l := &look{
		tree:    t,
		lay:     t.Layout(),
		wrong:   map[Trouble]struct{}{},
		names:   map[uint32]int{},
		folders: map[uint32]int{},
		owners:  map[uint32]uint32{},
		links:   map[uint32]int{},
	}
	if _, e := l.visit(inode.Root, nil); e != api.OK {
		return nil, e
	}
	if e := l.nodes(); e != api.OK {
		return nil, e
	}
	if e := l.blocks(); e != api.OK {
		return nil, e
	}
	return l, api.OK
}

// tell: something is wrong.
func (l *look) tell(kind int, n, b uint32) {
	l.wrong[Trouble{Kind: kind, Node: n, Block: b}] = struct{}{}
}

// unread: does an error say that what stands in blocks can't be read? All others are the tree's own.
func unread(e api.Errno) bool { return e == api.Form || e == api.Range }

// visit: an inode that has a name is looked at, and, the first time, all that it has. Is it a folder?
func (l *look) visit(n uint32, path []string) (bool, api.Errno) {
	l.paths = append(l.paths, names.Join(path...))
	l.names[n]++
	x, e := l.tree.Node(n)
	folder := x.Kind == inode.Folder
	switch {
	case unread(e):
		l.tell(Unread, n, 0)
		return false, api.OK
	case e != api.OK:
		return false, e
	case x.Kind == inode.Free:
		l.tell(Kind, n, 0)
		return false, api.OK
	case l.names[n] > 1:
		if folder {
			l.tell(Twice, n, 0)
		}
		return folder, api.OK
	}
	e = l.own(n, x)
	if e == api.OK && folder {
		e = l.within(n, x, path)
	}
	return folder, e
}

// within: all that a folder names is looked at.
func (l *look) within(n uint32, x inode.Inode, path []string) api.Errno {
	all, e := l.tree.Entries(x)
	switch {
	case unread(e):
		l.tell(Unread, n, 0)
		return api.OK
	case e != api.OK:
		return e
	}
	// A name may stand there twice, in a folder that isn't right.
	nodes := map[string][]uint32{}
	for _, y := range all {
		nodes[y.Name] = append(nodes[y.Name], y.Node)
	}
	for _, name := range dirent.Names(all) {
		next := nodes[name][0]
		nodes[name] = nodes[name][1:]
		folder, e := l.visit(next, append(slices.Clone(path), name))
		if e != api.OK {
			return e
		}
		if folder {
			l.folders[n]++
		}
	}
	return api.OK
}

// own: an inode has blocks.
func (l *look) own(n uint32, x inode.Inode) api.Errno {
	for _, b := range x.Direct {
		if e := l.have(n, b, 0); e != api.OK {
			return e
		}
	}
	if e := l.have(n, x.Single, 1); e != api.OK {
		return e
	}
	return l.have(n, x.Double, 2)
}

// have: an inode has a block (0: none), and those that it names, so deep.
func (l *look) have(n, b uint32, deep int) api.Errno {
	if b == 0 {
		return api.OK
	}
	if int64(b) < int64(l.lay.First) || int64(b) >= int64(l.lay.Blocks) {
		l.tell(Outside, n, b)
		return api.OK
	}
	if _, ok := l.owners[b]; ok {
		l.tell(Twice, n, b)
		return api.OK
	}
	l.owners[b] = n
	if deep == 0 {
		return api.OK
	}
	data, e := l.tree.Block(b)
	if e != api.OK {
		return e
	}
	for i := range len(data) / number {
		if e := l.have(n, bmap.Get(data, i), deep-1); e != api.OK {
			return e
		}
	}
	return api.OK
}

// nodes: all inodes are looked at, whether they have a name or not.
func (l *look) nodes() api.Errno {
	for i := range uint32(l.lay.Nodes) {
		n := i + 1
		x, e := l.tree.Node(n)
		many := l.many(n, x)
		switch {
		case unread(e):
			l.tell(Unread, n, 0)
		case e != api.OK:
			return e
		case x.Kind == inode.Free:
		case l.names[n] == 0:
			l.tell(Orphan, n, 0)
			l.links[n] = 0
		case int(x.Links) != many:
			l.tell(Count, n, 0)
			l.links[n] = many
		}
	}
	return api.OK
}

// many: how many names an inode must say that it has.
func (l *look) many(n uint32, x inode.Inode) int {
	if x.Kind != inode.Folder {
		return l.names[n]
	}
	return l.names[n] + 1 + l.folders[n]
}

// blocks: all blocks are looked at: is each one marked as in use that is, and no other one?
func (l *look) blocks() api.Errno {
	for b := range uint32(l.lay.Blocks) {
		used, e := l.tree.Used(b)
		if e != api.OK {
			return e
		}
		n, must := l.owners[b]
		must = must || int64(b) < int64(l.lay.First)
		switch {
		case must && !used:
			l.tell(Unused, n, b)
		case used && !must:
			l.tell(Lost, 0, b)
		}
	}
	return api.OK
}

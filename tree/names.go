package tree

import (
	"slices"

	"gabion/api"
	"gabion/dirent"
	"gabion/inode"
	"gabion/names"
)

// place is where a path's last name stands, or would stand.
type place struct {
	path   []string // all names of the path
	folder uint32   // in which folder; 0: in none, it is the root
	name   string
	node   uint32 // which inode it names; 0: there is no such name
}

// root: is it the root's?
func (p place) root() bool { return p.folder == 0 }

// Find: the inode that a path names, and its number.
func (t *Tree) Find(path string) (uint32, inode.Inode, api.Errno) {
	var n uint32
	var x inode.Inode
	e := t.do(func(w *work) api.Errno {
		p, e := w.there(path)
		if e != api.OK {
			return e
		}
		if x, e = w.node(p.node); e == api.OK {
			n = p.node
		}
		return e
	})
	return n, x, e
}

// Create, Mkdir: a file, a folder, that is empty; its inode.
func (t *Tree) Create(path string) (uint32, api.Errno) {
	return t.create(path, inode.Inode{Kind: inode.File, Links: 1})
}

func (t *Tree) Mkdir(path string) (uint32, api.Errno) {
	return t.create(path, inode.Inode{Kind: inode.Folder, Links: alone})
}

// create: a path names a new inode.
func (t *Tree) create(path string, x inode.Inode) (uint32, api.Errno) {
	var n uint32
	e := t.do(func(w *work) api.Errno {
		p, e := w.away(path)
		if e == api.OK && x.Kind == inode.Folder {
			e = w.count(p.folder, 1)
		}
		if e == api.OK {
			n, e = w.newNode()
		}
		if e == api.OK {
			e = w.setNode(n, x)
		}
		if e == api.OK {
			e = w.enter(p.folder, dirent.Entry{Node: n, Name: p.name})
		}
		return e
	})
	// Also what is done may still fail: when what waited ahead of it is written.
	if e != api.OK {
		return 0, e
	}
	return n, api.OK
}

// Link: a file has one more name.
func (t *Tree) Link(old, path string) api.Errno {
	return t.do(func(w *work) api.Errno {
		from, e := w.there(old)
		if e != api.OK {
			return e
		}
		x, e := w.node(from.node)
		if e != api.OK {
			return e
		}
		if x.Kind == inode.Folder {
			return api.IsDir
		}
		p, e := w.away(path)
		if e == api.OK {
			e = w.count(from.node, 1)
		}
		if e == api.OK {
			e = w.enter(p.folder, dirent.Entry{Node: from.node, Name: p.name})
		}
		return e
	})
}

// Unlink: a file has a name less; without one it is given up. (held: inodes that may not be.)
func (t *Tree) Unlink(path string, held ...uint32) api.Errno {
	return t.do(func(w *work) api.Errno {
		p, e := w.there(path)
		if e != api.OK {
			return e
		}
		x, e := w.node(p.node)
		switch {
		case e != api.OK:
			return e
		case x.Kind == inode.Folder:
			return api.IsDir
		}
		return w.unlink(p, x, held)
	})
}

// Rmdir: an empty folder is there no longer.
func (t *Tree) Rmdir(path string) api.Errno {
	return t.do(func(w *work) api.Errno {
		p, e := w.there(path)
		switch {
		case e != api.OK:
			return e
		case p.root():
			return api.State
		}
		x, e := w.node(p.node)
		if e != api.OK {
			return e
		}
		return w.rmdir(p, x)
	})
}

// Rename: what a path names has another one from now on; what that named is given up: a file for a file, an empty folder for a folder. (held: inodes that may not be given up.)
func (t *Tree) Rename(from, to string, held ...uint32) api.Errno {
	return t.do(func(w *work) api.Errno {
		a, e := w.there(from)
		switch {
		case e != api.OK:
			return e
		case a.root():
			return api.State
		}
		x, e := w.node(a.node)
		if e != api.OK {
			return e
		}
		b, e := w.place(to)
		switch {
		case e != api.OK:
			return e
		case b.root():
			return api.State
		case x.Kind == inode.Folder && len(b.path) > len(a.path) && names.Within(b.path, a.path):
			return api.Loop
		case b.node == a.node:
			return api.OK
		}
		if b.node != 0 {
			if e := w.replace(b, x.Kind == inode.Folder, held); e != api.OK {
				return e
			}
		}
		return w.move(a, b, x.Kind == inode.Folder)
	})
}

// place: where a path's last name stands, or would. NoEnt: one ahead of it isn't there; NotDir: it is no folder's.
func (w *work) place(path string) (place, api.Errno) {
	l, e := names.Split(path)
	if e != api.OK {
		return place{}, e
	}
	p := place{path: l, node: inode.Root}
	for _, name := range l {
		if p.node == 0 {
			return place{}, api.NoEnt
		}
		p.folder, p.name = p.node, name
		if p.node, e = w.named(p.folder, name); e != api.OK {
			return place{}, e
		}
	}
	return p, api.OK
}

// there: where a path's last name stands. NoEnt: it doesn't.
func (w *work) there(path string) (place, api.Errno) {
	p, e := w.place(path)
	switch {
	case e != api.OK:
		return place{}, e
	case p.node == 0:
		return place{}, api.NoEnt
	}
	return p, api.OK
}

// away: where a path's last name would stand. Exist: it does.
func (w *work) away(path string) (place, api.Errno) {
	p, e := w.place(path)
	switch {
	case e != api.OK:
		return place{}, e
	case p.node != 0:
		return place{}, api.Exist
	}
	return p, api.OK
}

// unlink: a file has a name less; without one it is given up.
func (w *work) unlink(p place, x inode.Inode, held []uint32) api.Errno {
	var e api.Errno
	switch {
	case x.Links > 1:
		e = w.count(p.node, -1)
	case slices.Contains(held, p.node):
		e = api.State
	default:
		e = w.giveUp(p.node, x)
	}
	if e != api.OK {
		return e
	}
	return w.leave(p.folder, p.name)
}

// rmdir: a folder is given up, if it is one, and empty.
func (w *work) rmdir(p place, x inode.Inode) api.Errno {
	l, e := w.entries(x)
	switch {
	case e != api.OK:
		return e
	case len(dirent.Names(l)) > 0:
		return api.NotEmpt
	}
	if e := w.giveUp(p.node, x); e != api.OK {
		return e
	}
	if e := w.count(p.folder, -1); e != api.OK {
		return e
	}
	return w.leave(p.folder, p.name)
}

// replace: what stands at a place is given up for a folder, or for what is none.
func (w *work) replace(p place, folder bool, held []uint32) api.Errno {
	x, e := w.node(p.node)
	is := x.Kind == inode.Folder
	switch {
	case e != api.OK:
		return e
	case folder && !is:
		return api.NotDir
	case !folder && is:
		return api.IsDir
	case is:
		return w.rmdir(p, x)
	}
	return w.unlink(p, x, held)
}

// move: a name goes from one place to another, that is free.
func (w *work) move(a, b place, folder bool) api.Errno {
	if folder {
		if e := w.count(a.folder, -1); e != api.OK {
			return e
		}
		if e := w.count(b.folder, 1); e != api.OK {
			return e
		}
	}
	if e := w.leave(a.folder, a.name); e != api.OK {
		return e
	}
	return w.enter(b.folder, dirent.Entry{Node: a.node, Name: b.name})
}

package fs

import (
	"strings"

	"gabion/api"
	"gabion/dirent"
	"gabion/inode"
	"gabion/names"
	"gabion/tree"
)

// Info is what is told of a file or a folder: its kind, its bytes, how many names it has.
type Info struct {
	Kind  int
	Size  int64
	Links int
}

// Create, Mkdir, Link, Unlink, Rmdir, Rename: as the tree does them; what is open isn't given up.
func (f *FS) Create(path string) api.Errno {
	_, e := f.Tree().Create(path)
	return e
}

func (f *FS) Mkdir(path string) api.Errno {
	_, e := f.Tree().Mkdir(path)
	return e
}

func (f *FS) Link(old, path string) api.Errno { return f.Tree().Link(old, path) }

func (f *FS) Unlink(path string) api.Errno { return f.Tree().Unlink(path, f.held()...) }

func (f *FS) Rmdir(path string) api.Errno { return f.Tree().Rmdir(path) }

func (f *FS) Rename(from, to string) api.Errno { return f.Tree().Rename(from, to, f.held()...) }

// Stat: what a path names.
func (f *FS) Stat(path string) (Info, api.Errno) {
	_, x, e := f.Tree().Find(path)
	if e != api.OK {
		return Info{}, e
	}
	i := Info{Kind: int(x.Kind), Links: int(x.Links)}
	if x.Kind != inode.Folder {
		i.Size = int64(x.Size)
	}
	return i, api.OK
}

// List: the names in a folder, in order.
func (f *FS) List(path string) ([]string, api.Errno) {
	x, e := f.folder(path)
	if e != api.OK {
		return nil, e
	}
	l, e := f.tree.Entries(x)
	if e != api.OK {
		return nil, e
	}
	return dirent.Names(l), api.OK
}

// Walk: all paths below one, in order.
func (f *FS) Walk(path string) []string {
	var l []string
	for p := range f.Tree().Walk(path) {
		l = append(l, p)
	}
	return l
}

// Glob: the paths below a folder, it aside, whose last name fits a pattern, in order.
func (f *FS) Glob(path, pattern string) ([]string, api.Errno) {
	if f.none() {
		return nil, api.Nil
	}
	if _, e := names.Match(pattern, ""); e != api.OK {
		return nil, e
	}
	var l []string
	e := f.below(path, func(p string, _ tree.Seen) api.Errno {
		fits, e := names.Match(pattern, p[strings.LastIndexByte(p, '/')+1:])
		if fits {
			l = append(l, p)
		}
		return e
	})
	if e != api.OK {
		return nil, e
	}
	return l, api.OK
}

// folder: the folder that a path names. NotDir: it is none.
func (f *FS) folder(path string) (inode.Inode, api.Errno) {
	_, x, e := f.Tree().Find(path)
	switch {
	case e != api.OK:
		return inode.Inode{}, e
	case x.Kind != inode.Folder:
		return inode.Inode{}, api.NotDir
	}
	return x, api.OK
}

// below calls by with each path below a folder, it aside, in order, up to the first error. NotDir: it is none.
func (f *FS) below(path string, by func(path string, s tree.Seen) api.Errno) api.Errno {
	if _, e := f.folder(path); e != api.OK {
		return e
	}
	self := true
	for p, s := range f.tree.Walk(path) {
		if self {
			self = false
			continue
		}
		if e := by(p, s); e != api.OK {
			return e
		}
	}
	// What couldn't be read was left out without a word. But the store's errors stay: they are told now.
	_, e := f.store.Get(0)
	return e
}

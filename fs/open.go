package fs

import (
	"gabion/api"
	"gabion/inode"
)

// From where a place is counted.
const (
	Begin = 0
	Here  = 1
	End   = 2
)

// furthest is the last place that a descriptor may have.
const furthest = 1 << 31

// descriptor is an open file, and a place in it; of inode 0: it isn't open.
type descriptor struct {
	node uint32
	at   int64
}

// Open: a descriptor of a file: the lowest that is free.
func (f *FS) Open(path string) (int, api.Errno) {
	n, x, e := f.Tree().Find(path)
	switch {
	case e != api.OK:
		return 0, e
	case x.Kind == inode.Folder:
		return 0, api.IsDir
	}
	for fd := range f.open {
		if f.open[fd] == (descriptor{}) {
			f.open[fd].node = n
			return fd, api.OK
		}
	}
	return 0, api.MFile
}

// Close: a descriptor is free.
func (f *FS) Close(fd int) api.Errno {
	d, e := f.opened(fd)
	if e == api.OK {
		*d = descriptor{}
	}
	return e
}

// opened: what a descriptor has open. BadF: nothing.
func (f *FS) opened(fd int) (*descriptor, api.Errno) {
	switch {
	case f.none():
		return nil, api.Nil
	case fd < 0 || fd >= len(f.open) || f.open[fd].node == 0:
		return nil, api.BadF
	}
	return &f.open[fd], api.OK
}

// held: the inodes of what is open.
func (f *FS) held() []uint32 {
	if f.none() {
		return nil
	}
	var l []uint32
	for _, d := range f.open {
		if d.node != 0 {
			l = append(l, d.node)
		}
	}
	return l
}

// Read: so many bytes of an open file at a place; at its end fewer.
func (f *FS) Read(fd int, at, n int64) ([]byte, api.Errno) {
	d, e := f.opened(fd)
	if e != api.OK {
		return nil, e
	}
	return f.tree.ReadAt(d.node, at, n)
}

// Write: bytes stand in an open file at a place.
func (f *FS) Write(fd int, at int64, data []byte) api.Errno {
	d, e := f.opened(fd)
	if e != api.OK {
		return e
	}
	return f.tree.WriteAt(d.node, at, data)
}

// Truncate: an open file has so many bytes.
func (f *FS) Truncate(fd int, size int64) api.Errno {
	d, e := f.opened(fd)
	if e != api.OK {
		return e
	}
	return f.tree.Truncate(d.node, size)
}

// Seek: a descriptor's place is another one; it.
func (f *FS) Seek(fd int, by int64, from int) (int64, api.Errno) {
	d, e := f.opened(fd)
	if e != api.OK {
		return 0, e
	}
	base, e := f.base(*d, from)
	if e != api.OK {
		return 0, e
	}
	// Not their sum: that may be more than an int64 holds.
	if by < -base || by > furthest-base {
		return 0, api.Inval
	}
	d.at = base + by
	return d.at, api.OK
}

// base: the place from which another one is counted.
func (f *FS) base(d descriptor, from int) (int64, api.Errno) {
	switch from {
	case Begin:
		return 0, api.OK
	case Here:
		return d.at, api.OK
	case End:
		return f.end(d)
	}
	return 0, api.Inval
}

// end: the place behind a file's last byte.
func (f *FS) end(d descriptor) (int64, api.Errno) {
	x, e := f.tree.Node(d.node)
	return int64(x.Size), e
}

// ReadNext: so many bytes from the descriptor's place on; that is behind them then.
func (f *FS) ReadNext(fd int, n int64) ([]byte, api.Errno) {
	d, e := f.opened(fd)
	if e != api.OK {
		return nil, e
	}
	data, e := f.tree.ReadAt(d.node, d.at, n)
	d.at += int64(len(data))
	return data, e
}

// WriteNext: bytes stand from the descriptor's place on; that is behind them then.
func (f *FS) WriteNext(fd int, data []byte) api.Errno {
	d, e := f.opened(fd)
	if e != api.OK {
		return e
	}
	if e := f.tree.WriteAt(d.node, d.at, data); e != api.OK {
		return e
	}
	d.at += int64(len(data))
	return api.OK
}

// Append: bytes stand behind the end of an open file.
func (f *FS) Append(fd int, data []byte) api.Errno {
	d, e := f.opened(fd)
	if e != api.OK {
		return e
	}
	end, e := f.end(*d)
	if e != api.OK {
		return e
	}
	return f.tree.WriteAt(d.node, end, data)
}

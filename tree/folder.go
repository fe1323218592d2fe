package tree

import (
	"gabion/api"
	"gabion/bmap"
	"gabion/dirent"
	"gabion/inode"
)

// entries: a folder's entries. NotDir: it is none; Form: it says that it has more bytes than there may be.
func (w *work) entries(x inode.Inode) ([]dirent.Entry, api.Errno) {
	switch {
	case x.Kind != inode.Folder:
		return nil, api.NotDir
	case int64(x.Size) > w.t.lay.Most():
		return nil, api.Form
	}
	var data []byte
	for n := range int(bmap.Blocks(int64(x.Size), w.t.lay.Size)) {
		b, e := w.part(x, n)
		if e != api.OK {
			return nil, e
		}
		data = append(data, b...)
	}
	return dirent.List(data[:x.Size])
}

// folder: a folder, and its entries.
func (w *work) folder(n uint32) (inode.Inode, []dirent.Entry, api.Errno) {
	x, e := w.node(n)
	if e != api.OK {
		return inode.Inode{}, nil, e
	}
	l, e := w.entries(x)
	return x, l, e
}

// named: the inode that a name in a folder names; 0: there is no such name.
func (w *work) named(folder uint32, name string) (uint32, api.Errno) {
	_, l, e := w.folder(folder)
	if e != api.OK {
		return 0, e
	}
	i := dirent.Find(l, name)
	if i < 0 {
		return 0, api.OK
	}
	return l[i].Node, api.OK
}

// enter: an entry comes into a folder, to the first place that is free. NoSpc: there is no block for it.
func (w *work) enter(folder uint32, x dirent.Entry) api.Errno {
	f, l, e := w.folder(folder)
	if e != api.OK {
		return e
	}
	at := int64(dirent.Room(l) * dirent.Size)
	if at > w.t.lay.Most()-dirent.Size {
		return api.NoSpc
	}
	b, e := x.Encode()
	if e != api.OK {
		return e
	}
	if e := w.write(&f, at, b); e != api.OK {
		return e
	}
	return w.setNode(folder, f)
}

// leave: a name goes out of a folder; its end is cut behind its last name then.
func (w *work) leave(folder uint32, name string) api.Errno {
	f, l, e := w.folder(folder)
	if e != api.OK {
		return e
	}
	i := dirent.Find(l, name)
	if i < 0 {
		return api.NoEnt
	}
	l[i] = dirent.Entry{}
	if e := w.write(&f, int64(i*dirent.Size), make([]byte, dirent.Size)); e != api.OK {
		return e
	}
	end := len(l)
	for end > 0 && l[end-1].Node == 0 {
		end--
	}
	if e := w.resize(&f, int64(end*dirent.Size)); e != api.OK {
		return e
	}
	return w.setNode(folder, f)
}

// count: an inode has more names, or fewer. MLink: they would be more than may be; Form: it is free.
func (w *work) count(n uint32, by int) api.Errno {
	x, e := w.node(n)
	if e != api.OK {
		return e
	}
	if x.Kind == inode.Free {
		return api.Form
	}
	many := int(x.Links) + by
	if by > 0 && many > api.MaxLinks {
		return api.MLink
	}
	x.Links = uint16(max(many, 0))
	return w.setNode(n, x)
}

package fs

import (
	"bytes"
	"slices"
	"strings"

	"gabion/api"
	"gabion/cursor"
	"gabion/inode"
	"gabion/names"
	"gabion/sum"
	"gabion/tree"
)

// PackMagic begins a pack.
const PackMagic = 0x4B434150

// MaxPack is how many bytes a pack has at most.
const MaxPack = 1 << 16

const (
	// nothing stands in a pack where the next thing's kind would, behind the last one.
	nothing = inode.Free
	// sealed is how many bytes a sum has.
	sealed = 4
	// frame is how many bytes a pack has that holds nothing.
	frame = 4 + 1 + sealed
)

// Thing is what a pack holds: a path, its kind, a file's bytes.
type Thing struct {
	Path string
	Kind uint8
	Data []byte
}

// Pack: all that is in a folder, as bytes: each path from there on, its kind, a file's bytes; and the sum of all.
func (f *FS) Pack(path string) ([]byte, api.Errno) {
	w := &cursor.Writer{}
	w.U32(PackMagic)
	in, left := top(path), MaxPack-frame
	e := f.below(path, func(p string, s tree.Seen) api.Errno {
		b, e := f.lay(strings.TrimPrefix(p, in), s)
		switch {
		case e != api.OK:
			return e
		case len(b) > left:
			return api.FBig
		}
		w.Raw(b)
		left -= len(b)
		return api.OK
	})
	if e != api.OK {
		return nil, e
	}
	return seal(w.U8(nothing).Bytes()), api.OK
}

// top: what stands ahead of the paths of what is in a folder.
func top(path string) string {
	l, _ := names.Split(path)
	return strings.TrimSuffix(names.Join(l...), "/")
}

// seal: bytes, and their sum behind them.
func seal(b []byte) []byte {
	return (&cursor.Writer{}).Raw(b).U32(sum.Of(b)).Bytes()
}

// lay: what a pack holds of a file or a folder.
func (f *FS) lay(way string, s tree.Seen) ([]byte, api.Errno) {
	w := &cursor.Writer{}
	w.U8(s.Node.Kind).Text(way)
	if s.Node.Kind == inode.Folder {
		return w.Bytes(), api.OK
	}
	data, e := f.content(s)
	if e != api.OK {
		return nil, e
	}
	return w.U32(uint32(len(data))).Raw(data).Bytes(), api.OK
}

// content: a file's bytes. FBig: no pack has room for them.
func (f *FS) content(s tree.Seen) ([]byte, api.Errno) {
	if s.Node.Size > MaxPack {
		return nil, api.FBig
	}
	var data []byte
	for {
		part, e := f.tree.ReadAt(s.Number, int64(len(data)), api.MaxIO)
		if e != api.OK {
			return nil, e
		}
		data = append(data, part...)
		if len(part) < api.MaxIO {
			return data, api.OK
		}
	}
}

// Things: what a pack holds, in its order; each below what stands ahead of it.
func Things(b []byte) ([]Thing, api.Errno) {
	if len(b) < sealed || len(b) > MaxPack {
		return nil, api.Form
	}
	held := b[:len(b)-sealed]
	if !bytes.Equal(seal(held), b) {
		return nil, api.Sum
	}
	var l []Thing
	ends := false
	e := cursor.Read(held, func(r *cursor.Reader) {
		if r.U32() == PackMagic {
			l, ends = take(r), r.Left() == 0
		}
	})
	if e != api.OK || !ends || !ordered(l) {
		return nil, api.Form
	}
	return l, api.OK
}

// take: things, up to where none follows.
func take(r *cursor.Reader) []Thing {
	var l []Thing
	for kind := r.U8(); kind != nothing; kind = r.U8() {
		x := Thing{Kind: kind, Path: r.Text()}
		if kind != inode.Folder {
			x.Data = r.Raw(int(r.U32()))
		}
		l = append(l, x)
	}
	return l
}

// ordered: are these things as Walk goes through a folder: each a file or a folder, in one that stands ahead of it, names in order?
func ordered(l []Thing) bool {
	folders := map[string]struct{}{"": {}} // what stands ahead of their things' last names
	var last []string
	for _, x := range l {
		way, ok := parts(x.Path)
		if !ok || x.Kind > inode.Folder || slices.CompareFunc(last, way, order) >= 0 {
			return false
		}
		in := x.Path[:strings.LastIndexByte(x.Path, '/')]
		if _, ok := folders[in]; !ok {
			return false
		}
		if x.Kind == inode.Folder {
			folders[x.Path] = struct{}{}
		}
		last = way
	}
	return true
}

// parts: the names of a thing's path; false: it is none. (Not names.Split: where a folder was renamed into another one, a path may be longer than those that it takes.)
func parts(path string) ([]string, bool) {
	l := strings.Split(strings.TrimPrefix(path, "/"), "/")
	if names.Join(l...) != path || len(l) > api.MaxDepth {
		return nil, false
	}
	return l, !slices.ContainsFunc(l, func(name string) bool { return names.Check(name) != api.OK })
}

// order: how one name stands to another: ahead (below 0), behind, or neither.
func order(a, b string) int {
	switch {
	case names.Less(a, b):
		return -1
	case names.Less(b, a):
		return 1
	}
	return 0
}

// Unpack: what a pack holds is made in a folder; what stops it stays where it stopped: how many things were made.
func (f *FS) Unpack(path string, b []byte) (int, api.Errno) {
	if f.none() {
		return 0, api.Nil
	}
	l, e := Things(b)
	if e != api.OK {
		return 0, e
	}
	if _, e := f.folder(path); e != api.OK {
		return 0, e
	}
	in := top(path)
	for n, x := range l {
		if e := f.put(in+x.Path, x); e != api.OK {
			return n, e
		}
	}
	return len(l), api.OK
}

// put: a thing is made, at a path.
func (f *FS) put(path string, x Thing) api.Errno {
	if x.Kind == inode.Folder {
		return f.Mkdir(path)
	}
	n, e := f.tree.Create(path)
	if e != api.OK {
		return e
	}
	at := int64(0)
	for part := range slices.Chunk(x.Data, api.MaxIO) {
		if e := f.tree.WriteAt(n, at, part); e != api.OK {
			return e
		}
		at += int64(len(part))
	}
	return api.OK
}

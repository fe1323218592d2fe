package fs_test

import (
	"fmt"
	"hash/crc32"
	"maps"
	"slices"
	"strings"

	"gabion/api"
	"gabion/fs"
	"gabion/names"
)

// thing is a file or a folder, by the chapter's words.
type thing struct {
	folder bool
	links  int
	data   []byte         // a file's bytes; never changed, but others come
	names  map[string]int // what a folder's names name
}

// place is what a descriptor has open (0: nothing), and where it is.
type place struct {
	n  int
	at int64
}

// model is a tree of names and bytes: without blocks, and without an end of room.
type model struct {
	most   int64 // how many bytes a file may have
	things map[int]*thing
	last   int // the last thing's number
	open   [16]place
	log    []*model // what it was behind each change, if that is kept
	keeps  bool
}

func newModel(most int64) *model {
	return &model{most: most, last: 1, things: map[int]*thing{1: {folder: true, links: 2, names: map[string]int{}}}}
}

// copied: the same by itself; nothing is open, and nothing kept.
func (m *model) copied() *model {
	c := &model{most: m.most, last: m.last, things: map[int]*thing{}}
	for n, x := range m.things {
		y := *x
		y.names = maps.Clone(x.names)
		c.things[n] = &y
	}
	return c
}

// done: a change is.
func (m *model) done() api.Errno {
	if m.keeps {
		m.log = append(m.log, m.copied())
	}
	return api.OK
}

// look: the folder of a path's last name (0: it is the root), that name, what it names (0: nothing), and all names.
func (m *model) look(path string) (in int, name string, n int, all []string, e api.Errno) {
	all, e = names.Split(path)
	if e != api.OK {
		return 0, "", 0, nil, e
	}
	n = 1
	for _, s := range all {
		if n == 0 {
			return 0, "", 0, nil, api.NoEnt
		}
		if !m.things[n].folder {
			return 0, "", 0, nil, api.NotDir
		}
		in, name, n = n, s, m.things[n].names[s]
	}
	return in, name, n, all, api.OK
}

// find: what a path names.
func (m *model) find(path string) (int, api.Errno) {
	_, _, n, _, e := m.look(path)
	if e == api.OK && n == 0 {
		e = api.NoEnt
	}
	return n, e
}

// folder: a folder that a path names.
func (m *model) folder(path string) (int, api.Errno) {
	n, e := m.find(path)
	if e == api.OK && !m.things[n].folder {
		e = api.NotDir
	}
	return n, e
}

func (m *model) create(path string, folder bool) api.Errno {
	in, name, n, _, e := m.look(path)
	switch {
	case e != api.OK:
		return e
	case n != 0:
		return api.Exist
	case folder && m.things[in].links == 200:
		return api.MLink
	}
	m.last++
	m.things[m.last] = &thing{links: 1}
	if folder {
		m.things[m.last] = &thing{folder: true, links: 2, names: map[string]int{}}
		m.things[in].links++
	}
	m.things[in].names[name] = m.last
	return m.done()
}

func (m *model) link(old, path string) api.Errno {
	n, e := m.find(old)
	switch {
	case e != api.OK:
		return e
	case m.things[n].folder:
		return api.IsDir
	}
	in, name, there, _, e := m.look(path)
	switch {
	case e != api.OK:
		return e
	case there != 0:
		return api.Exist
	case m.things[n].links == 200:
		return api.MLink
	}
	m.things[n].links++
	m.things[in].names[name] = n
	return m.done()
}

// held: is a thing open?
func (m *model) held(n int) bool {
	return slices.ContainsFunc(m.open[:], func(p place) bool { return p.n == n })
}

// less: a file has a name less, that isn't taken away yet.
func (m *model) less(n int) api.Errno {
	if m.things[n].links == 1 && m.held(n) {
		return api.State
	}
	if m.things[n].links--; m.things[n].links == 0 {
		delete(m.things, n)
	}
	return api.OK
}

func (m *model) unlink(path string) api.Errno {
	in, name, n, _, e := m.look(path)
	switch {
	case e != api.OK:
		return e
	case n == 0:
		return api.NoEnt
	case m.things[n].folder:
		return api.IsDir
	}
	if e := m.less(n); e != api.OK {
		return e
	}
	delete(m.things[in].names, name)
	return m.done()
}

func (m *model) rmdir(path string) api.Errno {
	in, name, n, all, e := m.look(path)
	switch {
	case e != api.OK:
		return e
	case len(all) == 0:
		return api.State
	case n == 0:
		return api.NoEnt
	case !m.things[n].folder:
		return api.NotDir
	case len(m.things[n].names) > 0:
		return api.NotEmpt
	}
	delete(m.things[in].names, name)
	m.things[in].links--
	delete(m.things, n)
	return m.done()
}

func (m *model) rename(from, to string) api.Errno {
	in, name, n, all, e := m.look(from)
	switch {
	case e != api.OK:
		return e
	case len(all) == 0:
		return api.State
	case n == 0:
		return api.NoEnt
	}
	in2, name2, n2, all2, e := m.look(to)
	folder := m.things[n].folder
	switch {
	case e != api.OK:
		return e
	case len(all2) == 0:
		return api.State
	case folder && strings.HasPrefix(names.Join(all2...), names.Join(all...)+"/"):
		return api.Loop
	case n == n2:
		return api.OK
	}
	if n2 != 0 {
		y := m.things[n2]
		switch {
		case folder && !y.folder:
			return api.NotDir
		case !folder && y.folder:
			return api.IsDir
		case y.folder && len(y.names) > 0:
			return api.NotEmpt
		case !y.folder:
			if e := m.less(n2); e != api.OK {
				return e
			}
		default:
			m.things[in2].links--
			delete(m.things, n2)
		}
	}
	if folder {
		m.things[in].links--
		m.things[in2].links++
	}
	delete(m.things[in].names, name)
	m.things[in2].names[name2] = n
	return m.done()
}

func (m *model) stat(path string) (fs.Info, api.Errno) {
	n, e := m.find(path)
	if e != api.OK {
		return fs.Info{}, e
	}
	x := m.things[n]
	if x.folder {
		return fs.Info{Kind: 2, Links: x.links}, api.OK
	}
	return fs.Info{Kind: 1, Size: int64(len(x.data)), Links: x.links}, api.OK
}

func (m *model) list(path string) ([]string, api.Errno) {
	n, e := m.folder(path)
	if e != api.OK {
		return nil, e
	}
	return slices.Sorted(maps.Keys(m.things[n].names)), api.OK
}

// each goes through all paths below what some names name, as Walk should.
func (m *model) each(n int, at []string, by func(path string, x *thing)) {
	by(names.Join(at...), m.things[n])
	if len(at) == 12 {
		return
	}
	for _, s := range slices.Sorted(maps.Keys(m.things[n].names)) {
		m.each(m.things[n].names[s], append(slices.Clone(at), s), by)
	}
}

func (m *model) walk(path string) []string {
	_, _, n, all, e := m.look(path)
	if e != api.OK || n == 0 {
		return nil
	}
	var l []string
	m.each(n, all, func(p string, _ *thing) { l = append(l, p) })
	return l
}

func (m *model) glob(path, pattern string) ([]string, api.Errno) {
	if _, e := names.Match(pattern, ""); e != api.OK {
		return nil, e
	}
	if _, e := m.folder(path); e != api.OK {
		return nil, e
	}
	var l []string
	for _, p := range m.walk(path)[1:] {
		if is, _ := names.Match(pattern, p[strings.LastIndex(p, "/")+1:]); is {
			l = append(l, p)
		}
	}
	return l, api.OK
}

// inside: all that is in a folder, as a pack has it.
func (m *model) inside(path string) ([]fs.Thing, api.Errno) {
	n, e := m.folder(path)
	if e != api.OK {
		return nil, e
	}
	_, _, _, all, _ := m.look(path)
	var l []fs.Thing
	m.each(n, all, func(p string, x *thing) {
		if p = strings.TrimPrefix(p, strings.TrimSuffix(names.Join(all...), "/")); x.folder {
			l = append(l, folder(p))
		} else {
			l = append(l, file(p, x.data))
		}
	})
	return l[1:], api.OK
}

func (m *model) pack(path string) ([]byte, api.Errno) {
	l, e := m.inside(path)
	if e != api.OK {
		return nil, e
	}
	b := pack(l...)
	if len(b) > fs.MaxPack {
		return nil, api.FBig
	}
	return b, api.OK
}

// unpack: things are made, up to the n-th, of which so many bytes are there; of all without an error.
func (m *model) unpack(path string, l []fs.Thing) (int, api.Errno) {
	if _, e := m.folder(path); e != api.OK {
		return 0, e
	}
	for n, x := range l {
		p := path + x.Path
		if e := m.create(p, x.Kind == 2); e != api.OK {
			return n, e
		}
		i, _ := m.find(p)
		for at := 0; at < len(x.Data); at += 1024 {
			m.write(i, int64(at), x.Data[at:min(at+1024, len(x.Data))])
		}
	}
	return len(l), api.OK
}

func (m *model) fd(fd int) (*place, api.Errno) {
	if fd < 0 || fd > 15 || m.open[fd].n == 0 {
		return &place{}, api.BadF
	}
	return &m.open[fd], api.OK
}

func (m *model) opens(path string) (int, api.Errno) {
	n, e := m.find(path)
	switch {
	case e != api.OK:
		return 0, e
	case m.things[n].folder:
		return 0, api.IsDir
	}
	fd := slices.Index(m.open[:], place{})
	if fd < 0 {
		return 0, api.MFile
	}
	m.open[fd].n = n
	return fd, api.OK
}

func (m *model) read(p *place, at, size int64) ([]byte, api.Errno) {
	if at < 0 || size < 0 || size > 1024 {
		return nil, api.Inval
	}
	data := m.things[p.n].data
	at = min(at, int64(len(data)))
	return data[at:min(at+size, int64(len(data)))], api.OK
}

func (m *model) write(n int, at int64, b []byte) api.Errno {
	switch {
	case at < 0 || len(b) > 1024:
		return api.Inval
	case at > m.most-int64(len(b)):
		return api.FBig
	case len(b) == 0:
		return api.OK
	}
	x := m.things[n]
	data := make([]byte, max(len(x.data), int(at)+len(b)))
	copy(data, x.data)
	copy(data[at:], b)
	x.data = data
	return m.done()
}

func (m *model) truncate(n int, size int64) api.Errno {
	switch {
	case size < 0:
		return api.Inval
	case size > m.most:
		return api.FBig
	}
	data := make([]byte, size)
	copy(data, m.things[n].data)
	m.things[n].data = data
	return m.done()
}

func (m *model) seek(p *place, by int64, from int) (int64, api.Errno) {
	if from < 0 || from > 2 {
		return 0, api.Inval
	}
	// As floats: they are far from the edges of what an int64 holds, or far beyond.
	to := float64([]int64{0, p.at, int64(len(m.things[p.n].data))}[from]) + float64(by)
	if to < 0 || to > 1<<31 {
		return 0, api.Inval
	}
	p.at = int64(to)
	return p.at, api.OK
}

// dump: likewise to a file system's.
func (m *model) dump() string {
	var s strings.Builder
	m.each(1, nil, func(path string, x *thing) {
		if x.folder {
			fmt.Fprintf(&s, "%s: 2 %d\n", path, x.links)
			return
		}
		fmt.Fprintf(&s, "%s: 1 %d %d %x\n", path, x.links, len(x.data), crc32.ChecksumIEEE(x.data))
	})
	return s.String()
}

// paths: all of them.
func (m *model) paths() []string { return m.walk("/") }

package tree_test

import (
	"fmt"
	"hash/crc32"
	"maps"
	"slices"
	"strings"

	"gabion/api"
	"gabion/inode"
	"gabion/names"
)

// thing is a file or a folder, by the chapter's words.
type thing struct {
	folder bool
	links  int
	data   []byte       // a file's bytes; never changed, but others come
	have   map[int]bool // which of its blocks are there
	slots  []slot       // a folder's entries
}

// slot is an entry; of number 0 none.
type slot struct {
	name string
	n    int
}

// model is a tree of names and bytes, by itself: without any blocks, but counted ones.
type model struct {
	lay    inode.Layout
	things map[int]*thing
}

func newModel(l inode.Layout) *model {
	return &model{lay: l, things: map[int]*thing{1: {folder: true, links: 2}}}
}

// copied: the same by itself.
func (m *model) copied() *model {
	c := &model{lay: m.lay, things: map[int]*thing{}}
	for n, x := range m.things {
		y := *x
		y.have, y.slots = maps.Clone(x.have), slices.Clone(x.slots)
		c.things[n] = &y
	}
	return c
}

// step does something all, or, with an error, not at all. NoSpc: more blocks would be there than may be.
func (m *model) step(by func(c *model) api.Errno) api.Errno {
	c := m.copied()
	if e := by(c); e != api.OK {
		return e
	}
	if c.used() > m.lay.Blocks-m.lay.First {
		return api.NoSpc
	}
	m.things = c.things
	return api.OK
}

// used: how many blocks all things have.
func (m *model) used() int {
	n := 0
	for _, x := range m.things {
		n += m.blocks(x)
	}
	return n
}

// blocks: how many blocks a thing has: those with bytes of it, and those that name them.
func (m *model) blocks(x *thing) int {
	k := m.lay.Size / 4
	have := x.have
	if x.folder {
		have = map[int]bool{}
		for i := range x.slots {
			have[i*32/m.lay.Size] = true
		}
	}
	over := map[int]bool{} // the blocks that name others
	for b := range have {
		switch {
		case b < 8:
		case b < 8+k:
			over[-1] = true
		default:
			over[-2], over[(b-8-k)/k] = true, true
		}
	}
	return len(have) + len(over)
}

// lowest: the lowest free inode; 0: none is.
func (m *model) lowest() int {
	for n := 1; n <= m.lay.Nodes; n++ {
		if m.things[n] == nil {
			return n
		}
	}
	return 0
}

// at: what a name in a folder names; 0: nothing.
func (x *thing) at(name string) int {
	for _, s := range x.slots {
		if s.n != 0 && s.name == name {
			return s.n
		}
	}
	return 0
}

// enter: a name comes to the first place that is free.
func (x *thing) enter(name string, n int) {
	for i := range x.slots {
		if x.slots[i].n == 0 {
			x.slots[i] = slot{name, n}
			return
		}
	}
	x.slots = append(x.slots, slot{name, n})
}

// leave: a name goes, and what is free behind the last one.
func (x *thing) leave(name string) {
	for i, s := range x.slots {
		if s.n != 0 && s.name == name {
			x.slots[i] = slot{}
		}
	}
	for len(x.slots) > 0 && x.slots[len(x.slots)-1].n == 0 {
		x.slots = x.slots[:len(x.slots)-1]
	}
}

// look: the folder of a path's last name (0: it is the root), that name, and what it names (0: nothing).
func (m *model) look(path string) (folder int, last string, n int, all []string, e api.Errno) {
	all, e = names.Split(path)
	if e != api.OK {
		return 0, "", 0, nil, e
	}
	n = 1
	for _, name := range all {
		if n == 0 {
			return 0, "", 0, nil, api.NoEnt
		}
		if !m.things[n].folder {
			return 0, "", 0, nil, api.NotDir
		}
		folder, last, n = n, name, m.things[n].at(name)
	}
	return folder, last, n, all, api.OK
}

// find: what a path names.
func (m *model) find(path string) (int, api.Errno) {
	_, _, n, _, e := m.look(path)
	if e == api.OK && n == 0 {
		e = api.NoEnt
	}
	return n, e
}

// create: an empty file, or folder.
func (m *model) create(path string, folder bool) (n int, e api.Errno) {
	e = m.step(func(m *model) api.Errno {
		in, name, there, _, e := m.look(path)
		switch {
		case e != api.OK:
			return e
		case there != 0:
			return api.Exist
		case folder && m.things[in].links == 200:
			return api.MLink
		}
		if n = m.lowest(); n == 0 {
			return api.NoSpc
		}
		m.things[n] = &thing{folder: folder, links: 1}
		if folder {
			m.things[n].links = 2
			m.things[in].links++
		}
		m.things[in].enter(name, n)
		return api.OK
	})
	if e != api.OK {
		n = 0
	}
	return n, e
}

func (m *model) link(old, path string) api.Errno {
	return m.step(func(m *model) api.Errno {
		n, e := m.find(old)
		switch {
		case e != api.OK:
			return e
		case m.things[n].folder:
			return api.IsDir
		}
		in, name, there, _, e := m.look(path)
		switch {
		case e != api.OK:
			return e
		case there != 0:
			return api.Exist
		case m.things[n].links == 200:
			return api.MLink
		}
		m.things[n].links++
		m.things[in].enter(name, n)
		return api.OK
	})
}

func (m *model) unlink(path string, held ...int) api.Errno {
	return m.step(func(m *model) api.Errno {
		in, name, n, _, e := m.look(path)
		switch {
		case e != api.OK:
			return e
		case n == 0:
			return api.NoEnt
		case m.things[n].folder:
			return api.IsDir
		}
		return m.less(in, name, n, held)
	})
}

// less: a file has a name less.
func (m *model) less(in int, name string, n int, held []int) api.Errno {
	if m.things[n].links--; m.things[n].links == 0 {
		if slices.Contains(held, n) {
			return api.State
		}
		delete(m.things, n)
	}
	m.things[in].leave(name)
	return api.OK
}

func (m *model) rmdir(path string) api.Errno {
	return m.step(func(m *model) api.Errno {
		in, name, n, all, e := m.look(path)
		switch {
		case e != api.OK:
			return e
		case len(all) == 0:
			return api.State
		case n == 0:
			return api.NoEnt
		case !m.things[n].folder:
			return api.NotDir
		case len(m.things[n].slots) > 0:
			return api.NotEmpt
		}
		m.things[in].leave(name)
		m.things[in].links--
		delete(m.things, n)
		return api.OK
	})
}

func (m *model) rename(from, to string, held ...int) api.Errno {
	return m.step(func(m *model) api.Errno {
		in, name, n, all, e := m.look(from)
		switch {
		case e != api.OK:
			return e
		case len(all) == 0:
			return api.State
		case n == 0:
			return api.NoEnt
		}
		x := m.things[n]
		in2, name2, n2, all2, e := m.look(to)
		switch {
		case e != api.OK:
			return e
		case len(all2) == 0:
			return api.State
		case x.folder && strings.HasPrefix(names.Join(all2...), names.Join(all...)+"/"):
			return api.Loop
		case n == n2:
			return api.OK
		}
		if n2 != 0 {
			y := m.things[n2]
			switch {
			case x.folder && !y.folder:
				return api.NotDir
			case !x.folder && y.folder:
				return api.IsDir
			case y.folder && len(y.slots) > 0:
				return api.NotEmpt
			case y.folder:
				m.things[in2].leave(name2)
				m.things[in2].links--
				delete(m.things, n2)
			default:
				if e := m.less(in2, name2, n2, held); e != api.OK {
					return e
				}
			}
		}
		if x.folder {
			m.things[in].links--
			if m.things[in2].links++; m.things[in2].links > 200 {
				return api.MLink
			}
		}
		m.things[in].leave(name)
		m.things[in2].enter(name2, n)
		return api.OK
	})
}

func (m *model) read(n int, at, size int64) ([]byte, api.Errno) {
	if at < 0 || size < 0 || size > 1024 {
		return nil, api.Inval
	}
	if n < 1 || n > m.lay.Nodes {
		return nil, api.Range
	}
	data := m.things[n].data
	at = min(at, int64(len(data)))
	return data[at:min(at+size, int64(len(data)))], api.OK
}

func (m *model) write(n int, at int64, b []byte) api.Errno {
	return m.step(func(m *model) api.Errno {
		if at < 0 || len(b) > 1024 {
			return api.Inval
		}
		if n < 1 || n > m.lay.Nodes {
			return api.Range
		}
		if at+int64(len(b)) > m.lay.Most() {
			return api.FBig
		}
		if len(b) == 0 {
			return api.OK
		}
		x := m.things[n]
		data := make([]byte, max(len(x.data), int(at)+len(b)))
		copy(data, x.data)
		copy(data[at:], b)
		x.data = data
		if x.have == nil {
			x.have = map[int]bool{}
		}
		for i := range b {
			x.have[(int(at)+i)/m.lay.Size] = true
		}
		return api.OK
	})
}

func (m *model) truncate(n int, size int64) api.Errno {
	return m.step(func(m *model) api.Errno {
		switch {
		case size < 0:
			return api.Inval
		case n < 1 || n > m.lay.Nodes:
			return api.Range
		case size > m.lay.Most():
			return api.FBig
		}
		x := m.things[n]
		data := make([]byte, size)
		copy(data, x.data)
		x.data = data
		maps.DeleteFunc(x.have, func(b int, _ bool) bool { return int64(b)*int64(m.lay.Size) >= size })
		return api.OK
	})
}

// files, paths: the files' inodes, and all paths, in a fixed order.
func (m *model) files() []int {
	var l []int
	for n, x := range m.things {
		if !x.folder {
			l = append(l, n)
		}
	}
	slices.Sort(l)
	return l
}

func (m *model) paths() []string {
	var l []string
	m.each(1, nil, func(path string, _ int) { l = append(l, path) })
	return l
}

// each goes through all paths, as Walk should.
func (m *model) each(n int, at []string, by func(path string, n int)) {
	by(names.Join(at...), n)
	if len(at) == api.MaxDepth {
		return
	}
	var l []slot
	for _, s := range m.things[n].slots {
		if s.n != 0 {
			l = append(l, s)
		}
	}
	slices.SortFunc(l, func(a, b slot) int {
		if names.Less(a.name, b.name) {
			return -1
		}
		return 1
	})
	for _, s := range l {
		m.each(s.n, append(slices.Clone(at), s.name), by)
	}
}

// dump: likewise to a tree's.
func (m *model) dump() string {
	var s strings.Builder
	m.each(1, nil, func(path string, n int) {
		x := m.things[n]
		kind := inode.File
		if x.folder {
			kind = inode.Folder
		}
		fmt.Fprintf(&s, "%s: %d %d %d\n", path, n, kind, x.links)
		for _, y := range x.slots {
			fmt.Fprintf(&s, " %q %d\n", y.name, y.n)
		}
		if !x.folder {
			fmt.Fprintf(&s, " %d %x\n", len(x.data), crc32.ChecksumIEEE(x.data))
		}
	})
	fmt.Fprintln(&s, m.lay.Blocks-m.lay.First-m.used(), m.lay.Nodes-len(m.things), api.OK)
	return s.String()
}

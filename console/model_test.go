package console_test

import (
	"fmt"
	"maps"
	"slices"
	"strings"
	"testing"

	"gabion/api"
	"gabion/console"
	"gabion/fs"
	"gabion/names"
	"gabion/nand"
)

// thing is a file or a folder, by the chapters' words.
type thing struct {
	folder bool
	links  int
	data   []byte         // a file's bytes; never changed, but others come
	names  map[string]int // what a folder's names name
}

// place is what a descriptor has open (0: nothing), and where it is.
type place struct {
	n  int
	at int64
}

// info is what is told of a path.
type info struct {
	Kind  int
	Size  int64
	Links int
}

// model is a tree of names and bytes, that answers orders: without blocks, and without an end of room.
type model struct {
	most   int64 // how many bytes a file may have
	things map[int]*thing
	last   int // the last thing's number
	open   [16]place
}

func newModel(most int64) *model {
	return &model{most: most, last: 1, things: map[int]*thing{1: {folder: true, links: 2, names: map[string]int{}}}}
}

// modelOf: of a new file system of a shape.
func modelOf(t *testing.T, g api.Geo) *model {
	t.Helper()
	a, _ := nand.New(g, nil)
	f, e := fs.Format(a)
	if e != api.OK {
		t.Fatal(e)
	}
	return newModel(f.Tree().Layout().Most())
}

// copied: the same by itself; nothing is open.
func (m *model) copied() *model {
	c := &model{most: m.most, last: m.last, things: map[int]*thing{}}
	for n, x := range m.things {
		y := *x
		y.names = maps.Clone(x.names)
		c.things[n] = &y
	}
	return c
}

// look: the folder of a path's last name (0: it is the root), that name, what it names (0: nothing), and all names.
func (m *model) look(path string) (in int, name string, n int, all []string, e api.Errno) {
	all, e = names.Split(path)
	if e != api.OK {
		return 0, "", 0, nil, e
	}
	n = 1
	for _, s := range all {
		if n == 0 {
			return 0, "", 0, nil, api.NoEnt
		}
		if !m.things[n].folder {
			return 0, "", 0, nil, api.NotDir
		}
		in, name, n = n, s, m.things[n].names[s]
	}
	return in, name, n, all, api.OK
}

// find: what a path names.
func (m *model) find(path string) (int, api.Errno) {
	_, _, n, _, e := m.look(path)
	if e == api.OK && n == 0 {
		e = api.NoEnt
	}
	return n, e
}

// folder: a folder that a path names.
func (m *model) folder(path string) (int, api.Errno) {
	n, e := m.find(path)
	if e == api.OK && !m.things[n].folder {
		e = api.NotDir
	}
	return n, e
}

func (m *model) create(path string, folder bool) api.Errno {
	in, name, n, _, e := m.look(path)
	switch {
	case e != api.OK:
		return e
	case n != 0:
		return api.Exist
	case folder && m.things[in].links == 200:
		return api.MLink
	}
	m.last++
	m.things[m.last] = &thing{links: 1}
	if folder {
		m.things[m.last] = &thing{folder: true, links: 2, names: map[string]int{}}
		m.things[in].links++
	}
	m.things[in].names[name] = m.last
	return api.OK
}

func (m *model) link(old, path string) api.Errno {
	n, e := m.find(old)
	switch {
	case e != api.OK:
		return e
	case m.things[n].folder:
		return api.IsDir
	}
	in, name, there, _, e := m.look(path)
	switch {
	case e != api.OK:
		return e
	case there != 0:
		return api.Exist
	case m.things[n].links == 200:
		return api.MLink
	}
	m.things[n].links++
	m.things[in].names[name] = n
	return api.OK
}

// held: is a thing open?
func (m *model) held(n int) bool {
	return slices.ContainsFunc(m.open[:], func(p place) bool { return p.n == n })
}

// less: a file has a name less, that isn't taken away yet.
func (m *model) less(n int) api.Errno {
	if m.things[n].links == 1 && m.held(n) {
		return api.State
	}
	if m.things[n].links--; m.things[n].links == 0 {
		delete(m.things, n)
	}
	return api.OK
}

func (m *model) unlink(path string) api.Errno {
	in, name, n, _, e := m.look(path)
	switch {
	case e != api.OK:
		return e
	case n == 0:
		return api.NoEnt
	case m.things[n].folder:
		return api.IsDir
	}
	if e := m.less(n); e != api.OK {
		return e
	}
	delete(m.things[in].names, name)
	return api.OK
}

func (m *model) rmdir(path string) api.Errno {
	in, name, n, all, e := m.look(path)
	switch {
	case e != api.OK:
		return e
	case len(all) == 0:
		return api.State
	case n == 0:
		return api.NoEnt
	case !m.things[n].folder:
		return api.NotDir
	case len(m.things[n].names) > 0:
		return api.NotEmpt
	}
	delete(m.things[in].names, name)
	m.things[in].links--
	delete(m.things, n)
	return api.OK
}

func (m *model) rename(from, to string) api.Errno {
	in, name, n, all, e := m.look(from)
	switch {
	case e != api.OK:
		return e
	case len(all) == 0:
		return api.State
	case n == 0:
		return api.NoEnt
	}
	in2, name2, n2, all2, e := m.look(to)
	folder := m.things[n].folder
	switch {
	case e != api.OK:
		return e
	case len(all2) == 0:
		return api.State
	case folder && strings.HasPrefix(names.Join(all2...), names.Join(all...)+"/"):
		return api.Loop
	case n == n2:
		return api.OK
	}
	if n2 != 0 {
		y := m.things[n2]
		switch {
		case folder && !y.folder:
			return api.NotDir
		case !folder && y.folder:
			return api.IsDir
		case y.folder && len(y.names) > 0:
			return api.NotEmpt
		case !y.folder:
			if e := m.less(n2); e != api.OK {
				return e
			}
		default:
			m.things[in2].links--
			delete(m.things, n2)
		}
	}
	if folder {
		m.things[in].links--
		m.things[in2].links++
	}
	delete(m.things[in].names, name)
	m.things[in2].names[name2] = n
	return api.OK
}

func (m *model) stat(path string) (info, api.Errno) {
	n, e := m.find(path)
	if e != api.OK {
		return info{}, e
	}
	x := m.things[n]
	if x.folder {
		return info{Kind: 2, Links: x.links}, api.OK
	}
	return info{Kind: 1, Size: int64(len(x.data)), Links: x.links}, api.OK
}

func (m *model) list(path string) ([]string, api.Errno) {
	n, e := m.folder(path)
	if e != api.OK {
		return nil, e
	}
	return slices.Sorted(maps.Keys(m.things[n].names)), api.OK
}

// each goes through all paths below what some names name, as Walk should.
func (m *model) each(n int, at []string, by func(path string, x *thing)) {
	by(names.Join(at...), m.things[n])
	if len(at) == 12 {
		return
	}
	for _, s := range slices.Sorted(maps.Keys(m.things[n].names)) {
		m.each(m.things[n].names[s], append(slices.Clone(at), s), by)
	}
}

func (m *model) walk(path string) []string {
	_, _, n, all, e := m.look(path)
	if e != api.OK || n == 0 {
		return nil
	}
	var l []string
	m.each(n, all, func(p string, _ *thing) { l = append(l, p) })
	return l
}

func (m *model) glob(path, pattern string) ([]string, api.Errno) {
	if _, e := names.Match(pattern, ""); e != api.OK {
		return nil, e
	}
	if _, e := m.folder(path); e != api.OK {
		return nil, e
	}
	var l []string
	for _, p := range m.walk(path)[1:] {
		if is, _ := names.Match(pattern, p[strings.LastIndex(p, "/")+1:]); is {
			l = append(l, p)
		}
	}
	return l, api.OK
}

func (m *model) fd(fd int) (*place, api.Errno) {
	if fd < 0 || fd > 15 || m.open[fd].n == 0 {
		return &place{}, api.BadF
	}
	return &m.open[fd], api.OK
}

func (m *model) opens(path string) (int, api.Errno) {
	n, e := m.find(path)
	switch {
	case e != api.OK:
		return 0, e
	case m.things[n].folder:
		return 0, api.IsDir
	}
	fd := slices.Index(m.open[:], place{})
	if fd < 0 {
		return 0, api.MFile
	}
	m.open[fd].n = n
	return fd, api.OK
}

func (m *model) read(p *place, at, size int64) ([]byte, api.Errno) {
	if at < 0 || size < 0 || size > 1024 {
		return nil, api.Inval
	}
	data := m.things[p.n].data
	at = min(at, int64(len(data)))
	return data[at:min(at+size, int64(len(data)))], api.OK
}

func (m *model) write(n int, at int64, b []byte) api.Errno {
	switch {
	case at < 0 || len(b) > 1024:
		return api.Inval
	case at > m.most-int64(len(b)):
		return api.FBig
	case len(b) == 0:
		return api.OK
	}
	x := m.things[n]
	data := make([]byte, max(len(x.data), int(at)+len(b)))
	copy(data, x.data)
	copy(data[at:], b)
	x.data = data
	return api.OK
}

func (m *model) truncate(n int, size int64) api.Errno {
	switch {
	case size < 0:
		return api.Inval
	case size > m.most:
		return api.FBig
	}
	data := make([]byte, size)
	copy(data, m.things[n].data)
	m.things[n].data = data
	return api.OK
}

func (m *model) seek(p *place, by int64, from int) (int64, api.Errno) {
	if from < 0 || from > 2 {
		return 0, api.Inval
	}
	// As floats: they are far from the edges of what an int64 holds, or far beyond.
	to := float64([]int64{0, p.at, int64(len(m.things[p.n].data))}[from]) + float64(by)
	if to < 0 || to > 1<<31 {
		return 0, api.Inval
	}
	p.at = int64(to)
	return p.at, api.OK
}

// either: an answer without numbers.
func either(e api.Errno) string {
	if e != api.OK {
		return wrong(e)
	}
	return "ok"
}

// listed: how names are told.
func listed(word string, l []string, e api.Errno) string {
	if e != api.OK {
		return wrong(e)
	}
	return strings.Join(append([]string{word, fmt.Sprint(len(l))}, l...), " ")
}

// answer: what an order about names and bytes answers; all that a file system without faults has to say else.
func (m *model) answer(o console.Order) string {
	switch o.Word {
	case "create", "mkdir":
		return either(m.create(o.Texts[0], o.Word == "mkdir"))
	case "link":
		return either(m.link(o.Texts[0], o.Texts[1]))
	case "unlink":
		return either(m.unlink(o.Texts[0]))
	case "rmdir":
		return either(m.rmdir(o.Texts[0]))
	case "rename":
		return either(m.rename(o.Texts[0], o.Texts[1]))
	case "stat":
		i, e := m.stat(o.Texts[0])
		if e != api.OK {
			return wrong(e)
		}
		return fmt.Sprint("stat ", i.Kind, i.Size, i.Links)
	case "list":
		l, e := m.list(o.Texts[0])
		return listed("list", l, e)
	case "walk":
		return listed("walk", m.walk(o.Texts[0]), api.OK)
	case "glob":
		l, e := m.glob(o.Texts[0], o.Texts[1])
		return listed("glob", l, e)
	case "open":
		fd, e := m.opens(o.Texts[0])
		if e != api.OK {
			return wrong(e)
		}
		return fmt.Sprint("fd ", fd)
	case "sync":
		return "ok"
	case "scrub":
		return "scrubbed 0"
	case "mend":
		return "mended 0"
	case "check":
		return fmt.Sprint("check 0 ", m.many(1))
	case "full", "tick":
		return "full 1"
	}
	return m.ofOpen(o)
}

// many: how many paths there are from a thing on, however deep they are.
func (m *model) many(n int) int {
	all := 1
	for _, x := range m.things[n].names {
		all += m.many(x)
	}
	return all
}

// bytesOf: the numbers' lowest 8 bits.
func bytesOf(nums []int64) []byte {
	var b []byte
	for _, n := range nums {
		b = append(b, byte(n&255))
	}
	return b
}

// ofOpen: what an order about an open file answers.
func (m *model) ofOpen(o console.Order) string {
	p, e := m.fd(int(o.Nums[0]))
	if e != api.OK {
		return wrong(e)
	}
	x := m.things[p.n]
	var data []byte
	switch o.Word {
	case "close":
		*p = place{}
	case "truncate":
		e = m.truncate(p.n, o.Nums[1])
	case "write":
		e = m.write(p.n, o.Nums[1], bytesOf(o.Nums[2:]))
	case "fill":
		if len(o.Nums) > 2 {
			data = slices.Repeat(bytesOf(o.Nums[3:]), 4*int(o.Nums[2]&255))
		}
		e = m.write(p.n, o.Nums[1], data)
	case "append":
		e = m.write(p.n, int64(len(x.data)), bytesOf(o.Nums[1:]))
	case "read":
		if data, e = m.read(p, o.Nums[1], o.Nums[2]); e == api.OK {
			return told(data)
		}
	case "next":
		if data, e = m.read(p, p.at, o.Nums[1]); e == api.OK {
			p.at += int64(len(data))
			return told(data)
		}
	case "seek":
		var at int64
		if at, e = m.seek(p, o.Nums[1], int(o.Nums[2])); e == api.OK {
			return fmt.Sprint("at ", at)
		}
	}
	return either(e)
}

// look: all that is to be seen, by orders: of each path what it is, and a file's bytes.
func look(do func(o console.Order) string) string {
	var s strings.Builder
	l := strings.Fields(do(console.Order{Word: "walk", Texts: []string{"/"}}))
	for _, p := range l[2:] {
		info := do(console.Order{Word: "stat", Texts: []string{p}})
		fmt.Fprintln(&s, p, info)
		if strings.HasPrefix(info, "stat 2") {
			continue
		}
		if fd := do(console.Order{Word: "open", Texts: []string{p}}); fd != "fd 0" {
			fmt.Fprintln(&s, fd)
			continue
		}
		for at, is := int64(0), ""; !strings.HasPrefix(is, "bytes 0 ") && !strings.HasPrefix(is, "error"); at += 1024 {
			is = do(console.Order{Word: "read", Nums: []int64{0, at, 1024}})
			fmt.Fprintln(&s, is)
		}
		do(console.Order{Word: "close", Nums: []int64{0}})
	}
	return s.String()
}

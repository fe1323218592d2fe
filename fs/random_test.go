package fs_test

import (
	"fmt"
	"slices"
	"strings"
	"testing"

	"gabion/api"
	"gabion/fs"
	"gabion/fsck"
	"gabion/names"
)

// dice are numbers, the same in each run.
type dice uint32

func (d *dice) next(n int) int {
	*d = *d*1664525 + 1013904223
	return int(uint32(*d)>>8) % n
}

// order is one operation, that a file system does and a model.
type order struct {
	word  string
	a, b  string
	fd    int
	at, n int64
	from  int
	data  []byte
	pack  []fs.Thing
}

func (o order) String() string {
	return fmt.Sprintf("%s %q %q %d %d %d %d %d %d", o.word, o.a, o.b, o.fd, o.at, o.n, o.from, len(o.data), len(o.pack))
}

// fs: what a file system answers.
func (o order) fs(f *fs.FS) string {
	switch o.word {
	case "create":
		return fmt.Sprint(f.Create(o.a))
	case "mkdir":
		return fmt.Sprint(f.Mkdir(o.a))
	case "link":
		return fmt.Sprint(f.Link(o.a, o.b))
	case "unlink":
		return fmt.Sprint(f.Unlink(o.a))
	case "rmdir":
		return fmt.Sprint(f.Rmdir(o.a))
	case "rename":
		return fmt.Sprint(f.Rename(o.a, o.b))
	case "stat":
		return fmt.Sprint(f.Stat(o.a))
	case "list":
		return fmt.Sprint(f.List(o.a))
	case "walk":
		return fmt.Sprint(f.Walk(o.a), 0)
	case "glob":
		return fmt.Sprint(f.Glob(o.a, o.b))
	case "pack":
		return fmt.Sprint(f.Pack(o.a))
	case "unpack":
		return fmt.Sprint(f.Unpack(o.a, pack(o.pack...)))
	case "open":
		return fmt.Sprint(f.Open(o.a))
	case "close":
		return fmt.Sprint(f.Close(o.fd))
	case "read":
		return fmt.Sprint(f.Read(o.fd, o.at, o.n))
	case "write":
		return fmt.Sprint(f.Write(o.fd, o.at, o.data))
	case "truncate":
		return fmt.Sprint(f.Truncate(o.fd, o.n))
	case "seek":
		return fmt.Sprint(f.Seek(o.fd, o.at, o.from))
	case "readnext":
		return fmt.Sprint(f.ReadNext(o.fd, o.n))
	case "writenext":
		return fmt.Sprint(f.WriteNext(o.fd, o.data))
	case "append":
		return fmt.Sprint(f.Append(o.fd, o.data))
	case "fsync":
		return fmt.Sprint(f.Fsync(o.fd))
	case "scrub":
		return fmt.Sprint(just(f.Scrub()))
	case "store":
		return fmt.Sprint(f.Store().Check())
	case "check":
		l, paths, e := fsck.Check(f.Tree())
		return fmt.Sprint(l, paths, e)
	}
	return fmt.Sprint(f.Sync())
}

// model: what a model answers.
func (o order) model(m *model) string {
	switch o.word {
	case "create", "mkdir":
		return fmt.Sprint(m.create(o.a, o.word == "mkdir"))
	case "link":
		return fmt.Sprint(m.link(o.a, o.b))
	case "unlink":
		return fmt.Sprint(m.unlink(o.a))
	case "rmdir":
		return fmt.Sprint(m.rmdir(o.a))
	case "rename":
		return fmt.Sprint(m.rename(o.a, o.b))
	case "stat":
		return fmt.Sprint(m.stat(o.a))
	case "list":
		return fmt.Sprint(m.list(o.a))
	case "walk":
		return fmt.Sprint(m.walk(o.a), 0)
	case "glob":
		return fmt.Sprint(m.glob(o.a, o.b))
	case "pack":
		return fmt.Sprint(m.pack(o.a))
	case "unpack":
		return fmt.Sprint(m.unpack(o.a, o.pack))
	case "open":
		return fmt.Sprint(m.opens(o.a))
	case "store":
		return fmt.Sprint(true, api.OK)
	case "check":
		l := m.deep(1, "")
		slices.Sort(l)
		return fmt.Sprint([]fsck.Trouble{}, l, api.OK)
	case "sync", "scrub":
		return fmt.Sprint(api.OK)
	}
	return o.onFile(m)
}

// deep: all paths, however deep they are.
func (m *model) deep(n int, at string) []string {
	l := []string{at}
	if at == "" {
		l[0] = "/"
	}
	for s, x := range m.things[n].names {
		l = append(l, m.deep(x, at+"/"+s)...)
	}
	return l
}

// onFile: what a model answers of what is open.
func (o order) onFile(m *model) string {
	p, e := m.fd(o.fd)
	var data []byte
	at := int64(0)
	switch {
	case e != api.OK || o.word == "fsync":
	case o.word == "close":
		*p = place{}
	case o.word == "read":
		data, e = m.read(p, o.at, o.n)
	case o.word == "write":
		e = m.write(p.n, o.at, o.data)
	case o.word == "truncate":
		e = m.truncate(p.n, o.n)
	case o.word == "seek":
		at, e = m.seek(p, o.at, o.from)
	case o.word == "readnext":
		data, e = m.read(p, p.at, o.n)
		p.at += int64(len(data))
	case o.word == "writenext":
		if e = m.write(p.n, p.at, o.data); e == api.OK {
			p.at += int64(len(o.data))
		}
	case o.word == "append":
		e = m.write(p.n, int64(len(m.things[p.n].data)), o.data)
	}
	switch o.word {
	case "read", "readnext":
		return fmt.Sprint(data, e)
	case "seek":
		return fmt.Sprint(at, e)
	}
	return fmt.Sprint(e)
}

// is: is this an answer's error? It stands at its end.
func is(answer string, e api.Errno) bool {
	l := strings.Fields(answer)
	return l[len(l)-1] == fmt.Sprint(int(e))
}

// changes: is it one that may change something?
func (o order) changes() bool {
	return slices.Contains([]string{"create", "mkdir", "link", "unlink", "rmdir", "rename", "unpack", "write", "truncate", "writenext", "append"}, o.word)
}

// needs: how many blocks it may take at most.
func (o order) needs(size int) int {
	// What names a new block may be new itself, and what names that.
	many := 3
	for range slices.Chunk(o.data, size) {
		many++
	}
	return many
}

// path: of some names, the more of them are there the likelier; now and then one that may not be, or goes about.
func (d *dice) path(m *model) string {
	l := m.paths()
	p := l[d.next(len(l))]
	name := []string{"a", "b", "c", "d", "ä", "a.b", "世"}[d.next(7)]
	switch d.next(14) {
	case 0, 1, 2:
		return p
	case 3:
		return p + "/../" + name
	case 4:
		return []string{"", "a", "/", "//a/./b", "/a/\x01", "/" + strings.Repeat("x", 25), strings.Repeat("/a", 13), strings.Repeat("/.", 101), "/\xff", "/ä/..", "/b/c/d/e"}[d.next(11)]
	case 5, 6, 7, 8, 9:
		return strings.TrimSuffix(p, "/") + "/" + name
	}
	if i := strings.LastIndex(p, "/"); i > 0 && d.next(2) == 0 {
		return p[:i] + "/" + name
	}
	return "/" + name
}

// place: where in a file something is done.
func (d *dice) place(m *model, far int) int64 {
	switch d.next(10) {
	case 0:
		return int64(d.next(3)) - 1
	case 1:
		return int64(d.next(far))
	case 2:
		return int64(d.next(far)) / 64 * 64
	case 3:
		if d.next(10) == 0 {
			return []int64{m.most + 1, 1 << 31, 1<<31 + 1, 1 << 62, -1 << 62}[d.next(5)]
		}
	}
	return int64(d.next(3000))
}

// words: the operations, the more often the likelier.
func words() []string {
	return []string{"create", "create", "create", "mkdir", "mkdir", "link", "unlink", "rmdir", "rename", "rename", "stat", "list", "walk", "glob", "pack", "unpack", "open", "open", "open", "open", "close", "close", "read", "read", "write", "write", "write", "truncate", "seek", "seek", "readnext", "readnext", "writenext", "writenext", "writenext", "append", "append", "fsync", "sync", "scrub", "store", "check"}
}

// order: any one that may come to a model.
func (d *dice) order(m *model, far int) order {
	o := order{word: words()[d.next(len(words()))]}
	o.a, o.b = d.path(m), d.path(m)
	if o.word == "open" && d.next(4) > 0 {
		for range 20 {
			if i, e := m.stat(o.a); e != api.OK || i.Kind != 1 {
				o.a = d.path(m)
			}
		}
	}
	if o.word == "glob" {
		o.b = []string{"*", "?", "a*", "[b-d]", "*.*", "", "[", "世", "[^a]"}[d.next(9)]
	}
	o.fd = d.fd(m)
	o.at, o.n, o.from = d.place(m, far), d.place(m, far), d.next(3)
	if d.next(30) == 0 {
		o.from = []int{3, -1, 1 << 40}[d.next(3)]
	}
	if o.word == "seek" && o.from == fs.End {
		o.at -= 2000
	}
	if o.word != "truncate" && d.next(5) > 0 {
		o.n = int64(d.next(1025))
	}
	o.data = ink([]int{0, 1, 64, d.next(1025), 1024, 1025}[d.next(6)], d.next(250))
	if d.next(5) == 0 {
		clear(o.data)
	}
	if o.word == "unpack" {
		o.pack = d.things(m)
	}
	return o
}

// fd: a descriptor: mostly one that is open.
func (d *dice) fd(m *model) int {
	if d.next(20) == 0 {
		return d.next(19) - 1
	}
	fd := d.next(16)
	for range 16 {
		if m.open[fd].n != 0 {
			return fd
		}
		fd = (fd + 1) % 16
	}
	return fd
}

// things: what may be in a pack: what is in a folder, or something new.
func (d *dice) things(m *model) []fs.Thing {
	if l, e := m.inside(d.path(m)); e == api.OK && len(l) > 0 && len(l) < 8 && len(pack(l...)) < 3000 {
		return l
	}
	l := []fs.Thing{folder("/b"), file("/b/a", ink(d.next(1500), 1)), file("/c", ink(d.next(100), 2)), folder("/d"), file("/e", nil)}
	return l[:d.next(6)]
}

// P21.1, P21.2, P2: whatever comes, in a long row: each answer is that of a tree of names and bytes, but for NoSpc where there is no room; what has an error changes nothing; what was synced is there when it is mounted; nothing is ever wrong below.
func TestRandom(t *testing.T) {
	for _, g := range []api.Geo{small, least, some, broad, great} {
		for seed := range 6 {
			t.Run(fmt.Sprint(g.Chips, " ", g.Size, " ", seed), func(t *testing.T) {
				t.Parallel()
				r := plant(t, g)
				m := newModel(r.Tree().Layout().Most())
				d := dice(seed*77 + 5)
				full := 0
				for step := range 1500 {
					o := d.order(m, []int{4000, 90 * g.Size, 30000}[seed%3])
					if r.does(fmt.Sprint(step), o, m) {
						full++
					}
					if step%20 == 0 {
						r.is(fmt.Sprint(step, " ", o), m)
						r.whole(fmt.Sprint(step, " ", o))
					}
					if step%150 == 149 {
						r.ok("Sync", r.Sync())
						r = r.again()
						m.open = [16]place{}
						r.is(fmt.Sprint(step, " mounted"), m)
					}
				}
				if g == least && full == 0 {
					t.Error("there was always room")
				}
			})
		}
	}
}

// is: is a file system what a model is?
func (r *rig) is(what string, m *model) {
	r.t.Helper()
	if is, want := r.dump(), m.dump(); is != want {
		r.t.Fatal(what, "is\n", is, "want\n", want)
	}
}

// does: one operation, of a file system and of a model: the same answer; or NoSpc, where there is no room: was there none?
func (r *rig) does(what string, o order, m *model) bool {
	r.t.Helper()
	b, n, e := r.Space()
	r.ok("Space", e)
	was := ""
	if n == 0 || b < 9 {
		was = r.dump()
	}
	got := o.fs(r.FS)
	if !is(got, api.NoSpc) {
		if want := o.model(m); got != want {
			r.t.Fatal(what, o, "answers", got, "want", want)
		}
		return false
	}
	if o.word == "unpack" {
		r.part(what, o, m)
		return true
	}
	if !o.changes() || n > 0 && b >= o.needs(r.a.Geo().Size) {
		r.t.Fatal(what, o, "there is room:", b, n)
	}
	// The model has room: it mustn't change, and must have nothing else to answer.
	c := m.copied()
	c.open = m.open
	if want := o.model(c); !is(want, api.OK) {
		r.t.Fatal(what, o, "answers", got, "want", want)
	}
	if r.dump() != was {
		r.t.Fatal(what, o, got, "has changed something")
	}
	return true
}

// part: a pack was unpacked up to where there was no more room: the model does likewise.
func (r *rig) part(what string, o order, m *model) {
	r.t.Helper()
	l, _ := names.Split(o.a)
	in := strings.TrimSuffix(names.Join(l...), "/")
	for n, x := range o.pack {
		i, e := r.Stat(in + x.Path)
		if e != api.OK {
			if e != api.NoEnt {
				r.t.Fatal(what, o, e)
			}
			break
		}
		if i.Kind == 1 && i.Size < int64(len(x.Data)) {
			if i.Size%1024 != 0 {
				r.t.Fatal(what, o, i)
			}
			x.Data = x.Data[:i.Size]
		}
		if _, e := m.unpack(o.a, []fs.Thing{x}); e != api.OK {
			r.t.Fatal(what, o, n, e)
		}
	}
	r.is(what+" a part of "+o.String(), m)
}

package tree_test

import (
	"fmt"
	"strings"
	"testing"

	"gabion/api"
	"gabion/tree"
)

// dice are numbers, the same in each run.
type dice uint32

func (d *dice) next(n int) int {
	*d = *d*1664525 + 1013904223
	return int(uint32(*d)>>8) % n
}

// order is one operation, that a tree does and a model.
type order struct {
	word     string
	a, b     string
	n        int
	at, size int64
	data     []byte
	held     []int
}

func (o order) String() string {
	return fmt.Sprint(o.word, " ", o.a, " ", o.b, " ", o.n, " ", o.at, " ", o.size, " ", len(o.data), " ", o.held)
}

// changes: is it one that may change something?
func (o order) changes() bool { return o.word != "read" && o.word != "sync" }

// tree: what a tree answers.
func (o order) tree(t *tree.Tree) string {
	var held []uint32
	for _, n := range o.held {
		held = append(held, uint32(n))
	}
	switch o.word {
	case "create":
		return fmt.Sprint(t.Create(o.a))
	case "mkdir":
		return fmt.Sprint(t.Mkdir(o.a))
	case "link":
		return fmt.Sprint(t.Link(o.a, o.b))
	case "unlink":
		return fmt.Sprint(t.Unlink(o.a, held...))
	case "rmdir":
		return fmt.Sprint(t.Rmdir(o.a))
	case "rename":
		return fmt.Sprint(t.Rename(o.a, o.b, held...))
	case "write":
		return fmt.Sprint(t.WriteAt(uint32(o.n), o.at, o.data))
	case "read":
		return fmt.Sprint(t.ReadAt(uint32(o.n), o.at, o.size))
	case "truncate":
		return fmt.Sprint(t.Truncate(uint32(o.n), o.size))
	}
	return fmt.Sprint(t.Sync())
}

// model: what a model answers.
func (o order) model(m *model) string {
	switch o.word {
	case "create":
		return fmt.Sprint(m.create(o.a, false))
	case "mkdir":
		return fmt.Sprint(m.create(o.a, true))
	case "link":
		return fmt.Sprint(m.link(o.a, o.b))
	case "unlink":
		return fmt.Sprint(m.unlink(o.a, o.held...))
	case "rmdir":
		return fmt.Sprint(m.rmdir(o.a))
	case "rename":
		return fmt.Sprint(m.rename(o.a, o.b, o.held...))
	case "write":
		return fmt.Sprint(m.write(o.n, o.at, o.data))
	case "read":
		return fmt.Sprint(m.read(o.n, o.at, o.size))
	case "truncate":
		return fmt.Sprint(m.truncate(o.n, o.size))
	}
	return fmt.Sprint(api.OK)
}

// is: is this an answer's error? It stands at its end.
func is(answer string, e api.Errno) bool {
	l := strings.Fields(answer)
	return l[len(l)-1] == fmt.Sprint(int(e))
}

// path: of some names, the more of them are there the likelier; now and then one that may not be, or goes about.
func (d *dice) path(m *model) string {
	l := m.paths()
	p := l[d.next(len(l))]
	switch d.next(12) {
	case 0:
		return p
	case 1:
		return p + "/../" + string(rune('a'+d.next(6)))
	case 2:
		return []string{"", "a", "/", "//a/./b", "/a/\x01", "/" + strings.Repeat("x", 25), strings.Repeat("/a", 13), strings.Repeat("/.", 101), "/\xff", "/ä/..", "/b/c/d/e"}[d.next(11)]
	case 3, 4, 5, 6:
		return p + "/" + string(rune('a'+d.next(6)))
	}
	if i := strings.LastIndex(p, "/"); i > 0 && d.next(2) == 0 {
		return p[:i] + "/" + string(rune('a'+d.next(6)))
	}
	return "/" + string(rune('a'+d.next(6)))
}

// place: where in a file something is done; far is how far off at most.
func (d *dice) place(far int) int64 {
	switch d.next(8) {
	case 0:
		return int64(d.next(3)) - 1
	case 1:
		return int64(d.next(far))
	case 2:
		return int64(d.next(far)) / 64 * 64
	}
	return int64(d.next(3000))
}

// order: any one that may come to a model.
func (d *dice) order(m *model, far int) order {
	o := order{word: []string{"create", "mkdir", "link", "unlink", "rmdir", "rename", "rename", "write", "write", "write", "read", "truncate", "sync"}[d.next(13)]}
	o.a, o.b = d.path(m), d.path(m)
	if l := m.files(); len(l) > 0 {
		o.n = l[d.next(len(l))]
		if d.next(4) == 0 {
			o.held = []int{l[d.next(len(l))], l[0]}
		}
	}
	if d.next(40) == 0 {
		o.n = []int{0, m.lay.Nodes + 1, 1 << 30}[d.next(3)]
	}
	o.at, o.size = d.place(far), d.place(far)
	if o.word == "read" && d.next(5) > 0 {
		o.size %= 1025
	}
	many := []int{0, 1, 64, d.next(1025), 1024, 1025}[d.next(6)]
	if d.next(200) == 0 {
		o.at = m.lay.Most() - int64(d.next(3)*many/2)
	}
	o.data = ink(many, d.next(250))
	if d.next(5) == 0 {
		clear(o.data)
	}
	if o.n == 0 && (o.word == "read" || o.word == "write" || o.word == "truncate") {
		o.word = "create"
	}
	return o
}

// P20.1, P20.2, P2: whatever comes, in a long row: each answer is that of a tree of names and bytes, with blocks and inodes counted; what has an error changes nothing; what was written is there when it is mounted.
func TestRandom(t *testing.T) {
	for _, g := range []api.Geo{small, least, some, broad} {
		for seed := range 6 {
			t.Run(fmt.Sprint(g.Chips, " ", g.Size, " ", seed), func(t *testing.T) {
				t.Parallel()
				r := plant(t, g)
				m := newModel(r.Layout())
				d := dice(seed * 77)
				for step := range 1200 {
					o := d.order(m, []int{4000, 90 * g.Size, 30000}[seed%3])
					was, waiting := "", r.Waiting()
					if step%10 == 0 {
						was = r.image()
					}
					got, want := o.tree(r.Tree), o.model(m)
					if got != want {
						t.Fatal(step, o, "answers", got, "want", want)
					}
					if !is(got, api.OK) && (r.Waiting() != waiting || was != "" && r.image() != was) {
						t.Fatal(step, o, got, "has changed something")
					}
					if r.Waiting() > api.MaxBatch {
						t.Fatal(step, o, r.Waiting(), "wait")
					}
					if step%20 == 0 {
						r.same(fmt.Sprint(step, " ", o), m)
						r.whole(fmt.Sprint(step, " ", o))
					}
					if step%150 == 149 {
						r.sync()
						r = r.again()
						r.same(fmt.Sprint(step, " mounted"), m)
					}
				}
			})
		}
	}
}

// same: is a tree what a model is?
func (r *rig) same(what string, m *model) {
	r.t.Helper()
	if is, want := r.dump(), m.dump(); is != want {
		r.t.Fatal(what, "is\n", is, "want\n", want)
	}
}

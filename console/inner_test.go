package console

import (
	"fmt"
	"slices"
	"strings"
	"testing"

	"gabion/api"
	"gabion/fs"
	"gabion/nand"
	"gabion/store"
)

// These look behind a player: at chips of which no order tells, and at what is spoilt, which no order does.

// does: what each line has ahead of its = is an order, and what it has behind that the answer.
func does(t *testing.T, p *Player, lines ...string) {
	t.Helper()
	for _, s := range lines {
		o, want, _ := strings.Cut(s, " = ")
		l, _, e := Parse(o)
		if e != api.OK || len(l) != 1 {
			t.Fatal(s, l, e)
		}
		if is := p.Do(l[0]); is != want {
			t.Errorf("%s: %q, want %q", o, is, want)
		}
	}
}

// P23.1: what a crash, or a failure, leaves are the numbers' lowest 8 bits, up to eight of them.
func TestLeft(t *testing.T) {
	for _, c := range []struct {
		nums string
		left []byte
	}{
		{"", nil}, {" 0", []byte{0}}, {" 255", []byte{255}}, {" 1 2 3", []byte{1, 2, 3}}, {" 256 -1 257 -255 1099511627776", []byte{0, 255, 1, 1, 0}}, {" 1 2 3 4 5 6 7 8", []byte{1, 2, 3, 4, 5, 6, 7, 8}},
	} {
		for kind, word := range map[int]string{nand.Fail: "fail", nand.Crash: "crash"} {
			for op := range 100 {
				a, _ := nand.New(api.Geo{Chips: 3, Blocks: 24, Pages: 8, Size: 256}, nil, nand.Event{Op: op, Kind: kind, Left: c.left})
				fs.Format(a)
				p := &Player{}
				does(t, p, "geo 3 24 8 256 = ok", fmt.Sprint(word, " ", op, c.nums, " = ok"))
				l, _, _ := Parse("format")
				p.Do(l[0])
				if !nand.Same(a, p.chips) {
					t.Fatal(word, op, c.nums, "leaves something else")
				}
			}
		}
	}
}

// P23.1, P1: what is handed in isn't kept.
func TestNothingKept(t *testing.T) {
	p, q := &Player{}, &Player{}
	for _, x := range []*Player{p, q} {
		does(t, x, "geo 3 24 8 256 = ok")
		o := Order{Word: "crash", Nums: []int64{1, 7, 8}}
		x.Do(o)
		if x == p {
			o.Nums[0], o.Nums[1] = 9, 9
		}
		does(t, x, "format = error 72")
	}
	if !nand.Same(p.chips, q.chips) {
		t.Error("it was")
	}
}

// P23.1: a copy is by itself.
func TestCopied(t *testing.T) {
	p := &Player{}
	does(t, p, "geo 3 24 8 256 = ok", "crash 1000 = ok", "format = ok", "mkdir /a = ok", "sync = ok")
	was, b := p.chips, p.chips.Dump()
	does(t, p, "copy = ok", "ops = ops 0", "kill 0 = ok", "mount = ok", "mkdir /b = ok", "sync = ok")
	if !slices.Equal(was.Dump(), b) || nand.Same(was, p.chips) {
		t.Error("it isn't")
	}
	for range 100 {
		does(t, p, "mkdir /c = ok", "sync = ok", "rmdir /c = ok", "sync = ok")
	}
	if p.chips.Ops() < 1000 || p.chips.Off() {
		t.Error("what comes is copied:", p.chips.Ops(), p.chips.Off())
	}
}

// spoil: a logical block has other bytes from one on, whatever the tree says of it, which is mounted then.
func spoil(t *testing.T, p *Player, b, at int, bytes ...byte) {
	t.Helper()
	does(t, p, "sync = ok")
	s := p.files.Store()
	data, e := s.Get(uint32(b))
	if e != api.OK {
		t.Fatal(e)
	}
	copy(data[at:], bytes)
	if e := s.Batch([]store.Item{{Block: uint32(b), Data: data}}); e != api.OK {
		t.Fatal(e)
	}
	does(t, p, "mount = ok")
}

// P23.1: check tells of each trouble its kind, inode and block; mend how many were put right.
func TestWhatIsWrong(t *testing.T) {
	p := &Player{}
	does(t, p, "geo 3 24 8 256 = ok", "format = ok", "mkdir /a = ok", "create /a/f = ok", "open /a/f = fd 0", "fill 0 0 200 5 = ok", "create /g = ok", "check = check 0 4", "mend = mended 0")
	l := p.files.Tree().Layout()
	last := l.Blocks - 1
	// The last block is marked as in use.
	block, at, bit := l.Bit(uint32(last))
	spoil(t, p, block, at, 1<<bit)
	does(t, p, fmt.Sprint("check = check 1 4 8 0 ", last), "mend = mended 1", "check = check 0 4")
	// It is once more, and the file of four blocks says that it has nine names.
	spoil(t, p, block, at, 1<<bit)
	node, _, _ := p.files.Tree().Find("/a/f")
	x, _ := p.files.Tree().Node(node)
	x.Links = 9
	nb, nat, _ := l.At(node)
	spoil(t, p, nb, nat, x.Encode()...)
	does(t, p, fmt.Sprint("check = check 2 4 3 ", node, " 0 8 0 ", last), "mend = mended 2", "check = check 0 4", "stat /a/f = stat 1 800 1", "sync = ok", "mount = ok", "check = check 0 4")
	// No block of files is marked.
	var want []string
	many := 0
	for _, path := range []string{"/", "/a", "/a/f"} {
		n, x, _ := p.files.Tree().Find(path)
		for _, b := range x.Direct {
			if b != 0 {
				want = append(want, fmt.Sprint(" 7 ", n, " ", b))
				many++
			}
		}
	}
	first, from, bit := l.Bit(uint32(l.First))
	b, _ := p.files.Tree().Block(uint32(first))
	spoil(t, p, first, from, b[from]&^(255<<bit), 0, 0, 0)
	does(t, p, fmt.Sprint("check = check ", many, " 4", strings.Join(want, "")), fmt.Sprint("mend = mended ", many), "check = check 0 4")
	// An inode that can't be read stays so.
	spoil(t, p, nb, nat, slices.Repeat([]byte{255}, 64)...)
	does(t, p, fmt.Sprint("check = check 5 4 1 ", node, " 0 8 0 ", x.Direct[0], " 8 0 ", x.Direct[1], " 8 0 ", x.Direct[2], " 8 0 ", x.Direct[3]), "mend = mended 4", fmt.Sprint("check = check 1 4 1 ", node, " 0"), "stat /a/f = error 62", "list /a = list 1 f")
}

// P23.1: scrub tells how many segments were written anew.
func TestScrubbed(t *testing.T) {
	p := &Player{}
	does(t, p, "geo 3 24 8 256 = ok", "format = ok", "create /f = ok", "open /f = fd 0", "fill 0 0 255 1 = ok", "fill 0 1020 255 2 = ok", "sync = ok", "scrub = scrubbed 0")
	at, ok := p.files.Store().Where(0)
	if !ok {
		t.Fatal("block 0 is nowhere")
	}
	// One byte of its page is another one: all members' pages of the segment are programmed again.
	x := p.files.Array()
	type page struct {
		m, row    int
		data, oob []byte
	}
	var l []page
	for row := range x.Geo().Pages {
		for m := range x.Geo().Chips {
			data, oob, e := x.Read(m, at.Seg, row)
			if e != api.OK {
				t.Fatal(e)
			}
			if !slices.Equal(oob, slices.Repeat([]byte{255}, api.Oob)) {
				l = append(l, page{m, row, data, oob})
			}
		}
	}
	x.Erase(at.Seg)
	for _, y := range l {
		if y.m == 0 && y.row == at.Row {
			y.data[7] ^= 1
		}
		if e := x.Program(y.m, at.Seg, y.row, y.data, y.oob); e != api.OK {
			t.Fatal(e)
		}
	}
	does(t, p, "scrub = scrubbed 1", "scrub = scrubbed 0", "check = check 0 2", "mount = ok", "stat /f = stat 1 2040 1")
}

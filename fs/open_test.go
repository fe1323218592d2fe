package fs_test

import (
	"bytes"
	"fmt"
	"math"
	"slices"
	"testing"

	"gabion/api"
	"gabion/fs"
)

// P21.1: the lowest free descriptor; sixteen, and not one more.
func TestOpen(t *testing.T) {
	r := garden(t, small)
	for n := range api.MaxOpen {
		if fd, e := r.Open([]string{"/f", "/e", "/a/g", "/a/h"}[n%4]); fd != n || e != api.OK {
			t.Error(fd, e, "want", n)
		}
	}
	for path, want := range map[string]api.Errno{"/f": api.MFile, "/e": api.MFile, "/a": api.IsDir, "/": api.IsDir, "/n": api.NoEnt, "/f/n": api.NotDir, "": api.Inval} {
		if fd, e := r.Open(path); fd != 0 || e != want {
			t.Error(path, fd, e, "want", want)
		}
	}
	for _, l := range [][]int{{7}, {0}, {15}, {3, 12, 5}, {15, 14, 0, 1}} {
		for _, fd := range l {
			r.shut(fd)
		}
		slices.Sort(l)
		for _, want := range l {
			if fd, e := r.Open("/f"); fd != want || e != api.OK {
				t.Error(fd, e, "want", want)
			}
		}
		if fd, e := r.Open("/f"); fd != 0 || e != api.MFile {
			t.Error(fd, e)
		}
	}
}

// P21.1: what isn't open: BadF, ahead of all else that is wrong.
func TestBadF(t *testing.T) {
	r := garden(t, small)
	closed, open := r.fd("/f"), r.fd("/e")
	r.shut(closed)
	for _, fd := range []int{closed, -1, 2, 15, 16, 17, math.MinInt, math.MaxInt} {
		for what, call := range map[string]func() api.Errno{
			"Close":      func() api.Errno { return r.Close(fd) },
			"Read":       func() api.Errno { return just(r.Read(fd, 0, 1)) },
			"Read -1":    func() api.Errno { return just(r.Read(fd, -1, -1)) },
			"Write":      func() api.Errno { return r.Write(fd, 0, ink(1, 1)) },
			"Write -1":   func() api.Errno { return r.Write(fd, -1, ink(5000, 1)) },
			"Truncate":   func() api.Errno { return r.Truncate(fd, 0) },
			"Truncate-1": func() api.Errno { return r.Truncate(fd, -1) },
			"Seek":       func() api.Errno { return just(r.Seek(fd, 0, fs.End)) },
			"Seek 3":     func() api.Errno { return just(r.Seek(fd, -1, 3)) },
			"ReadNext":   func() api.Errno { return just(r.ReadNext(fd, 1)) },
			"ReadNext-1": func() api.Errno { return just(r.ReadNext(fd, -1)) },
			"WriteNext":  func() api.Errno { return r.WriteNext(fd, ink(1, 1)) },
			"Append":     func() api.Errno { return r.Append(fd, ink(5000, 1)) },
			"Fsync":      func() api.Errno { return r.Fsync(fd) },
		} {
			r.refuse(fmt.Sprint(what, " ", fd), api.BadF, call)
		}
	}
	r.shut(open)
	if e := r.Close(open); e != api.BadF {
		t.Error("closed twice:", e)
	}
}

// P21.1: Read, Write and Truncate are the tree's.
func TestReadAndWrite(t *testing.T) {
	r := garden(t, small)
	fd := r.fd("/f")
	want := ink(2500, 1)
	for _, c := range [][2]int64{{0, 0}, {0, 1}, {0, 1024}, {1024, 1024}, {2000, 1024}, {2499, 1}, {2499, 2}, {2500, 1}, {5000, 10}, {1 << 40, 1024}, {math.MaxInt64, 1024}} {
		to := min(c[0]+c[1], 2500)
		from := min(c[0], 2500)
		if c[0] > 1<<40 {
			to = 2500
		}
		if b, e := r.Read(fd, c[0], c[1]); !bytes.Equal(b, want[from:to]) || e != api.OK {
			t.Error(c, len(b), e)
		}
	}
	r.ok("Write", r.Write(fd, 3000, ink(24, 7)))
	want = append(append(want, make([]byte, 500)...), ink(24, 7)...)
	r.holds("/a/g", want)
	r.ok("Write", r.Write(fd, 255, ink(1024, 8)))
	copy(want[255:], ink(1024, 8))
	r.holds("/f", want)
	r.ok("Write", r.Write(fd, 5000, nil))
	r.holds("/f", want)
	r.ok("Truncate", r.Truncate(fd, 1000))
	r.ok("Truncate", r.Truncate(fd, 1100))
	want = append(want[:1000], make([]byte, 100)...)
	r.holds("/f", want)
	most := r.Tree().Layout().Most()
	for what, c := range map[string]struct {
		want api.Errno
		call func() api.Errno
	}{
		"Read at -1":       {api.Inval, func() api.Errno { return just(r.Read(fd, -1, 1)) }},
		"Read -1":          {api.Inval, func() api.Errno { return just(r.Read(fd, 0, -1)) }},
		"Read too much":    {api.Inval, func() api.Errno { return just(r.Read(fd, 0, 1025)) }},
		"Read far beyond":  {api.Inval, func() api.Errno { return just(r.Read(fd, math.MaxInt64, math.MaxInt64)) }},
		"Write at -1":      {api.Inval, func() api.Errno { return r.Write(fd, -1, nil) }},
		"Write too much":   {api.Inval, func() api.Errno { return r.Write(fd, math.MaxInt64, make([]byte, 1025)) }},
		"Write beyond":     {api.FBig, func() api.Errno { return r.Write(fd, most, ink(1, 1)) }},
		"Write far beyond": {api.FBig, func() api.Errno { return r.Write(fd, math.MaxInt64, ink(1024, 1)) }},
		"Write none there": {api.FBig, func() api.Errno { return r.Write(fd, most+1, nil) }},
		"Truncate -1":      {api.Inval, func() api.Errno { return r.Truncate(fd, -1) }},
		"Truncate beyond":  {api.FBig, func() api.Errno { return r.Truncate(fd, most+1) }},
		"Truncate far":     {api.FBig, func() api.Errno { return r.Truncate(fd, math.MaxInt64) }},
	} {
		r.refuse(what, c.want, c.call)
	}
	r.ok("Truncate", r.Truncate(fd, most))
	r.ok("Write", r.Write(fd, most-3, ink(3, 1)))
	if b, e := r.Read(fd, most-5, 100); !bytes.Equal(b, append([]byte{0, 0}, ink(3, 1)...)) || e != api.OK {
		t.Error(b, e)
	}
	r.refuse("Append", api.FBig, func() api.Errno { return r.Append(fd, ink(1, 1)) })
	r.refuse("Append of nothing", api.OK, func() api.Errno { return r.Append(fd, nil) })
}

// P1 (rule 4): what is written is kept as it was handed in, what is read is new memory.
func TestMemory(t *testing.T) {
	r := garden(t, small)
	fd := r.fd("/e")
	data := make([]byte, 100, 200)
	copy(data, ink(100, 1))
	spare := data[100:200]
	r.ok("WriteNext", r.WriteNext(fd, data))
	r.ok("Append", r.Append(fd, data))
	r.ok("Write", r.Write(fd, 200, data))
	clear(data)
	if slices.ContainsFunc(spare, func(c byte) bool { return c != 0 }) {
		t.Error("spare room is changed")
	}
	want := slices.Concat(ink(100, 1), ink(100, 1), ink(100, 1))
	for range 2 {
		b, e := r.Read(fd, 0, 300)
		if !bytes.Equal(b, want) || e != api.OK {
			t.Error("it is changed", e)
		}
		clear(b)
		_, e = r.Seek(fd, 0, fs.Begin)
		r.ok("Seek", e)
		b, e = r.ReadNext(fd, 300)
		if !bytes.Equal(b, want) || e != api.OK {
			t.Error("it is changed", e)
		}
		clear(b)
	}
}

// P21.1: a place from the begin, from where it is, from the end; from 0 to 2^31.
func TestSeek(t *testing.T) {
	const most = 1 << 31
	r := garden(t, small)
	fd, other := r.fd("/f"), r.fd("/f")
	type step struct {
		by   int64
		from int
		want int64
		e    api.Errno
	}
	for _, c := range []step{
		{0, fs.Here, 0, api.OK},
		{0, fs.Begin, 0, api.OK},
		{-1, fs.Begin, 0, api.Inval},
		{-1, fs.Here, 0, api.Inval},
		{1, fs.Begin, 1, api.OK},
		{-1, fs.Here, 0, api.OK},
		{7, fs.Here, 7, api.OK},
		{3, fs.Here, 10, api.OK},
		{-11, fs.Here, 10, api.Inval},
		{-10, fs.Here, 0, api.OK},
		{0, fs.End, 2500, api.OK},
		{-2500, fs.End, 0, api.OK},
		{-2501, fs.End, 0, api.Inval},
		{100, fs.End, 2600, api.OK},
		{100, fs.End, 2600, api.OK},
		{most, fs.Begin, most, api.OK},
		{0, fs.Here, most, api.OK},
		{1, fs.Here, most, api.Inval},
		{-1, fs.Here, most - 1, api.OK},
		{1, fs.Here, most, api.OK},
		{most + 1, fs.Begin, most, api.Inval},
		{most - 2500, fs.End, most, api.OK},
		{most - 2499, fs.End, most, api.Inval},
		{-most, fs.Here, 0, api.OK},
		{most, fs.Here, most, api.OK},
		{-most - 1, fs.Here, most, api.Inval},
		{math.MaxInt64, fs.Here, most, api.Inval},
		{math.MaxInt64, fs.Begin, most, api.Inval},
		{math.MaxInt64, fs.End, most, api.Inval},
		{math.MinInt64, fs.Here, most, api.Inval},
		{math.MinInt64, fs.Begin, most, api.Inval},
		{math.MinInt64, fs.End, most, api.Inval},
		{5, 3, most, api.Inval},
		{5, -1, most, api.Inval},
		{0, math.MaxInt, most, api.Inval},
		{0, math.MinInt, most, api.Inval},
		{5, fs.Begin, 5, api.OK},
	} {
		at, e := r.Seek(fd, c.by, c.from)
		if e != c.e || e == api.OK && at != c.want || e != api.OK && at != 0 {
			t.Error(c, at, e)
		}
		// Where it isn't another one it is the last one.
		if at, e := r.Seek(fd, 0, fs.Here); at != c.want || e != api.OK {
			t.Error(c, "it is at", at, e)
		}
		if at, e := r.Seek(other, 0, fs.Here); at != 0 || e != api.OK {
			t.Error(c, "the other one is at", at, e)
		}
	}
	r.ok("Truncate", r.Truncate(other, 10))
	if at, e := r.Seek(fd, -10, fs.End); at != 0 || e != api.OK {
		t.Error("the end is another one:", at, e)
	}
	r.shut(fd)
	if fd := r.fd("/e"); fd != 0 {
		t.Error(fd)
	}
	if at, e := r.Seek(0, 0, fs.Here); at != 0 || e != api.OK {
		t.Error("a new one is at", at, e)
	}
}

// P21.1: the next bytes, in pieces of all lengths; at the end fewer, and none.
func TestNext(t *testing.T) {
	r := garden(t, small)
	want := ink(2500, 1)
	for _, many := range []int{1, 2, 3, 7, 64, 255, 256, 257, 500, 1000, 1023, 1024} {
		fd := r.fd("/f")
		var data []byte
		for {
			b, e := r.ReadNext(fd, int64(many))
			r.ok("ReadNext", e)
			data = append(data, b...)
			if at, e := r.Seek(fd, 0, fs.Here); at != int64(len(data)) || e != api.OK {
				t.Fatal(many, "it is at", at, e, "want", len(data))
			}
			if len(b) == 0 {
				break
			}
			if len(b) != min(many, 2500-len(data)+len(b)) {
				t.Error(many, "are", len(b))
			}
		}
		if !bytes.Equal(data, want) {
			t.Error(many, "it is something else")
		}
		r.shut(fd)
		p := fmt.Sprint("/p", many)
		r.ok("Create", r.Create(p))
		fd = r.fd(p)
		for l := range slices.Chunk(want, many) {
			r.ok("WriteNext", r.WriteNext(fd, l))
		}
		if at, e := r.Seek(fd, 0, fs.Here); at != 2500 || e != api.OK {
			t.Error(many, "it is at", at, e)
		}
		r.holds(p, want)
		r.shut(fd)
		r.ok("Unlink", r.Unlink(p))
	}
}

// P21.1: a place stays where nothing is read or written, and where there is an error.
func TestNextAtTheEdges(t *testing.T) {
	r := garden(t, small)
	fd := r.fd("/f")
	most := r.Tree().Layout().Most()
	at := func(want int64) {
		t.Helper()
		if is, e := r.Seek(fd, 0, fs.Here); is != want || e != api.OK {
			t.Error("it is at", is, e, "want", want)
		}
	}
	seek := func(to int64) {
		t.Helper()
		if is, e := r.Seek(fd, to, fs.Begin); is != to || e != api.OK {
			t.Error("it is at", is, e, "want", to)
		}
	}
	seek(2498)
	if b, e := r.ReadNext(fd, 100); !bytes.Equal(b, ink(2500, 1)[2498:]) || e != api.OK {
		t.Error(b, e)
	}
	at(2500)
	for _, n := range []int64{0, 1, 1024} {
		if b, e := r.ReadNext(fd, n); len(b) != 0 || e != api.OK {
			t.Error(n, b, e)
		}
		at(2500)
	}
	seek(100)
	for _, n := range []int64{-1, 1025, math.MinInt64, math.MaxInt64} {
		if b, e := r.ReadNext(fd, n); b != nil || e != api.Inval {
			t.Error(n, b, e)
		}
		at(100)
	}
	r.refuse("WriteNext", api.Inval, func() api.Errno { return r.WriteNext(fd, ink(1025, 1)) })
	at(100)
	r.ok("WriteNext", r.WriteNext(fd, nil))
	at(100)
	seek(4000)
	r.ok("WriteNext of nothing", r.WriteNext(fd, []byte{}))
	r.stat("/f", fs.Info{Kind: 1, Size: 2500, Links: 2})
	r.ok("WriteNext", r.WriteNext(fd, ink(3, 4)))
	at(4003)
	r.holds("/f", slices.Concat(ink(2500, 1), make([]byte, 1500), ink(3, 4)))
	seek(most)
	r.refuse("WriteNext", api.FBig, func() api.Errno { return r.WriteNext(fd, ink(1, 4)) })
	at(most)
	r.ok("WriteNext of nothing", r.WriteNext(fd, nil))
	seek(most + 1)
	r.refuse("WriteNext of nothing", api.FBig, func() api.Errno { return r.WriteNext(fd, nil) })
	seek(1 << 31)
	if b, e := r.ReadNext(fd, 1024); len(b) != 0 || e != api.OK {
		t.Error(b, e)
	}
	seek(most - 5)
	r.refuse("WriteNext", api.FBig, func() api.Errno { return r.WriteNext(fd, ink(6, 4)) })
	at(most - 5)
	r.ok("WriteNext", r.WriteNext(fd, ink(5, 4)))
	at(most)
}

// P21.1: each descriptor has a place of its own; Append goes to the end, whoever wrote it, and leaves the places.
func TestAppend(t *testing.T) {
	r := garden(t, small)
	one, two := r.fd("/f"), r.fd("/a/g")
	want := ink(2500, 1)
	for n := range 6 {
		fd := []int{one, two}[n%2]
		r.ok("Append", r.Append(fd, ink(100+n, n)))
		want = append(want, ink(100+n, n)...)
		r.holds("/f", want)
	}
	for _, fd := range []int{one, two} {
		if at, e := r.Seek(fd, 0, fs.Here); at != 0 || e != api.OK {
			t.Error("it is at", at, e)
		}
	}
	r.ok("WriteNext", r.WriteNext(one, ink(10, 9)))
	copy(want, ink(10, 9))
	if b, e := r.ReadNext(two, 20); !bytes.Equal(b, want[:20]) || e != api.OK {
		t.Error(b, e)
	}
	r.ok("Truncate", r.Truncate(two, 5))
	r.ok("Append", r.Append(one, ink(3, 3)))
	want = append(want[:5:5], ink(3, 3)...)
	r.holds("/f", want)
	r.refuse("Append", api.Inval, func() api.Errno { return r.Append(one, ink(1025, 1)) })
	r.ok("Append", r.Append(one, nil))
	r.ok("Append", r.Append(two, ink(1024, 1)))
	r.holds("/f", append(want, ink(1024, 1)...))
}

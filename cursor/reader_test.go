package cursor_test

import (
	"bytes"
	"errors"
	"math"
	"runtime"
	"testing"

	"gabion/api"
	"gabion/cursor"
)

// P1.1: numbers, bytes and texts are taken from the beginning on; what is left may stay.
func TestTaking(t *testing.T) {
	b := []byte{1, 1, 2, 1, 2, 3, 4, 1, 2, 3, 4, 5, 6, 7, 8, 9, 9, 2, 'a', 'b', 0}
	e := cursor.Read(b, func(r *cursor.Reader) {
		if n := r.Left(); n != len(b) {
			t.Error("Left", n)
		}
		if n := r.U8(); n != 1 {
			t.Error("U8", n)
		}
		if n := r.U16(); n != 0x0201 {
			t.Error("U16", n)
		}
		if n := r.U32(); n != 0x04030201 {
			t.Error("U32", n)
		}
		if n := r.U64(); n != 0x0807060504030201 {
			t.Error("U64", n)
		}
		if p := r.Raw(2); !bytes.Equal(p, []byte{9, 9}) {
			t.Error("Raw", p)
		}
		if s := r.Text(); s != "ab" {
			t.Error("Text", s)
		}
		if n := r.Left(); n != 1 {
			t.Error("Left", n)
		}
	})
	if e != api.OK {
		t.Error(e)
	}
}

// P1.1: how many bytes are left, and whether they are all 0.
func TestLeftAndZero(t *testing.T) {
	for _, c := range []struct {
		b    []byte
		zero bool
	}{
		{nil, true}, {[]byte{}, true}, {[]byte{0}, true}, {[]byte{1}, false},
		{[]byte{0, 0, 0, 1}, false}, {[]byte{128, 0, 0}, false}, {make([]byte, 300), true},
	} {
		e := cursor.Read(c.b, func(r *cursor.Reader) {
			if r.Left() != len(c.b) || r.Zero() != c.zero || r.Left() != len(c.b) {
				t.Error(c.b, r.Left(), r.Zero())
			}
		})
		if e != api.OK {
			t.Error(c.b, e)
		}
	}
	cursor.Read([]byte{1, 0, 0}, func(r *cursor.Reader) {
		if r.U8(); !r.Zero() || r.Left() != 2 {
			t.Error("what was taken counts no longer")
		}
	})
}

// P1.1: what is taken beyond the end, or below 0 bytes, ends the reading there; up to the end it doesn't.
func TestBeyondTheEnd(t *testing.T) {
	for _, c := range []struct {
		name string
		b    []byte
		take func(r *cursor.Reader)
		want api.Errno
	}{
		{"U8 of nil", nil, func(r *cursor.Reader) { r.U8() }, api.Form},
		{"U8 of none", []byte{}, func(r *cursor.Reader) { r.U8() }, api.Form},
		{"U8 of 1", make([]byte, 1), func(r *cursor.Reader) { r.U8() }, api.OK},
		{"U16 of 1", make([]byte, 1), func(r *cursor.Reader) { r.U16() }, api.Form},
		{"U16 of 2", make([]byte, 2), func(r *cursor.Reader) { r.U16() }, api.OK},
		{"U32 of 3", make([]byte, 3), func(r *cursor.Reader) { r.U32() }, api.Form},
		{"U32 of 4", make([]byte, 4), func(r *cursor.Reader) { r.U32() }, api.OK},
		{"U64 of 7", make([]byte, 7), func(r *cursor.Reader) { r.U64() }, api.Form},
		{"U64 of 8", make([]byte, 8), func(r *cursor.Reader) { r.U64() }, api.OK},
		{"Raw(0) of none", nil, func(r *cursor.Reader) { r.Raw(0) }, api.OK},
		{"Raw(3) of 3", make([]byte, 3), func(r *cursor.Reader) { r.Raw(3) }, api.OK},
		{"Raw(4) of 3", make([]byte, 3), func(r *cursor.Reader) { r.Raw(4) }, api.Form},
		{"Raw(-1)", make([]byte, 3), func(r *cursor.Reader) { r.Raw(-1) }, api.Form},
		{"the least Raw", make([]byte, 3), func(r *cursor.Reader) { r.Raw(math.MinInt) }, api.Form},
		{"the greatest Raw", make([]byte, 3), func(r *cursor.Reader) { r.Raw(math.MaxInt) }, api.Form},
		{"Text of none", nil, func(r *cursor.Reader) { r.Text() }, api.Form},
		{"a Text that is whole", []byte{2, 'a', 'b'}, func(r *cursor.Reader) { r.Text() }, api.OK},
		{"a Text that runs out", []byte{3, 'a', 'b'}, func(r *cursor.Reader) { r.Text() }, api.Form},
		{"a second one", make([]byte, 2), func(r *cursor.Reader) { r.U16(); r.U8() }, api.Form},
	} {
		behind := false
		e := cursor.Read(c.b, func(r *cursor.Reader) {
			c.take(r)
			behind = true
		})
		if e != c.want || behind != (c.want == api.OK) {
			t.Error(c.name, e, behind)
		}
	}
}

// P1.1: without a function: Nil.
func TestReadWithoutFunction(t *testing.T) {
	if e := cursor.Read([]byte{1}, nil); e != api.Nil {
		t.Error(e)
	}
	if e := cursor.Read(nil, nil); e != api.Nil {
		t.Error(e)
	}
}

// P1.1: a nil reader, and one that Read didn't make, has nothing left: what is taken of it ends the reading.
func TestReadersOfNothing(t *testing.T) {
	for _, n := range []*cursor.Reader{nil, {}} {
		if n.Left() != 0 || !n.Zero() || len(n.Raw(0)) != 0 {
			t.Error("something is left:", n.Left(), n.Zero())
		}
		for i, take := range []func(){
			func() { n.U8() }, func() { n.U16() }, func() { n.U32() }, func() { n.U64() },
			func() { n.Text() }, func() { n.Raw(1) }, func() { n.Raw(-1) },
		} {
			behind := false
			e := cursor.Read([]byte{1, 2}, func(*cursor.Reader) {
				take()
				behind = true
			})
			if e != api.Form || behind {
				t.Error(n == nil, i, e, behind)
			}
		}
	}
}

// panicOf: what a function panics with.
func panicOf(by func()) (x any) {
	defer func() { x = recover() }()
	by()
	return nil
}

// P1.1: what else the function panics with goes on, as it is.
func TestOtherPanicsGoOn(t *testing.T) {
	wrong := errors.New("wrong")
	for _, v := range []any{"text", 7, wrong, api.Form, struct{}{}} {
		x := panicOf(func() {
			cursor.Read([]byte{1}, func(r *cursor.Reader) {
				r.U8()
				panic(v)
			})
		})
		if x != v {
			t.Error(v, "became", x)
		}
	}
	x := panicOf(func() {
		cursor.Read(nil, func(r *cursor.Reader) {
			var l []int
			_ = l[r.Left()]
		})
	})
	if _, ok := x.(runtime.Error); !ok {
		t.Error("an index became", x)
	}
	x = panicOf(func() {
		cursor.Read(nil, func(r *cursor.Reader) {
			defer func() { panic(wrong) }()
			r.U8()
		})
	})
	if x != wrong {
		t.Error("behind the end", x)
	}
}

// P1.1: a reading within another one ends by itself, and neither takes the other's end for its own.
func TestReadingsWithinReadings(t *testing.T) {
	var inner api.Errno
	last := uint8(0)
	outer := cursor.Read([]byte{1, 2}, func(r *cursor.Reader) {
		inner = cursor.Read([]byte{3}, func(s *cursor.Reader) { s.U16() })
		last = uint8(r.U16() >> 8)
	})
	if outer != api.OK || inner != api.Form || last != 2 {
		t.Error("the inner one ran out:", outer, inner, last)
	}
	behind := false
	outer = cursor.Read([]byte{1}, func(r *cursor.Reader) {
		cursor.Read([]byte{3, 4}, func(s *cursor.Reader) { r.U16() })
		behind = true
	})
	if outer != api.Form || behind {
		t.Error("the outer one ran out:", outer, behind)
	}
}

// P1.1: that more was taken than there is is told, even if the function itself catches it.
func TestCaughtByTheFunction(t *testing.T) {
	e := cursor.Read([]byte{1}, func(r *cursor.Reader) {
		if panicOf(func() { r.U16() }) == nil {
			t.Error("the reading went on")
		}
	})
	if e != api.Form {
		t.Error(e)
	}
}

// P1.3: a reader that outlives its reading has kept nothing of what was handed in; in another reading it ends that.
func TestReaderThatOutlives(t *testing.T) {
	b := []byte{1, 2, 3}
	var kept *cursor.Reader
	cursor.Read(b, func(r *cursor.Reader) {
		r.U8()
		kept = r
	})
	b[1] = 9
	if n := kept.U8(); n != 2 {
		t.Error("it kept the bytes:", n)
	}
	if e := cursor.Read(b, func(*cursor.Reader) { kept.U16() }); e != api.Form {
		t.Error(e)
	}
}

// P1.3: what is read isn't changed, its spare room neither; what is taken is new memory.
func TestRawIsNewMemory(t *testing.T) {
	room := []byte{1, 2, 3, 4, 5}
	cursor.Read(room[:4], func(r *cursor.Reader) {
		again := *r
		first, second := r.Raw(2), again.Raw(2)
		first[0] = 9
		_ = append(first, 9, 9, 9)
		if !bytes.Equal(second, []byte{1, 2}) {
			t.Error("two answers share memory:", second)
		}
		if n := r.U16(); n != 0x0403 {
			t.Error("an answer is the reader's:", n)
		}
	})
	if !bytes.Equal(room, []byte{1, 2, 3, 4, 5}) {
		t.Error("changed:", room)
	}
}

// P1.2: what was laid, in any order, is taken as it was, and nothing is left.
func TestLaidIsTaken(t *testing.T) {
	seed := uint64(1)
	next := func() uint64 { // the same numbers in each run
		seed = seed*6364136223846793005 + 1442695040888963407
		return seed >> 11
	}
	for range 300 {
		w := &cursor.Writer{}
		var takes []func(r *cursor.Reader) bool
		for range next() % 20 {
			takes = append(takes, layOne(w, int(next()%6), next()<<11|next()))
		}
		e := cursor.Read(w.Bytes(), func(r *cursor.Reader) {
			for i, take := range takes {
				if !take(r) {
					t.Error("thing", i, "is another one")
				}
			}
			if r.Left() != 0 || !r.Zero() {
				t.Error("left:", r.Left())
			}
		})
		if e != api.OK {
			t.Error(e)
		}
	}
}

// layOne lays a thing of a kind, made of a number; the function takes it, and tells whether it is the same.
func layOne(w *cursor.Writer, kind int, n uint64) func(r *cursor.Reader) bool {
	switch kind {
	case 0:
		w.U8(uint8(n))
		return func(r *cursor.Reader) bool { return r.U8() == uint8(n) }
	case 1:
		w.U16(uint16(n))
		return func(r *cursor.Reader) bool { return r.U16() == uint16(n) }
	case 2:
		w.U32(uint32(n), uint32(n>>32))
		return func(r *cursor.Reader) bool { return r.U32() == uint32(n) && r.U32() == uint32(n>>32) }
	case 3:
		w.U64(n)
		return func(r *cursor.Reader) bool { return r.U64() == n }
	}
	p := bytes.Repeat([]byte{byte(n >> 8), 0, byte(n >> 16)}, 100)[:n%256]
	if kind == 4 {
		w.Text(string(p))
		return func(r *cursor.Reader) bool { return r.Text() == string(p) }
	}
	w.Raw(p)
	return func(r *cursor.Reader) bool { return bytes.Equal(r.Raw(len(p)), p) }
}

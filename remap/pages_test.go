package remap_test

import (
	"bytes"
	"encoding/binary"
	"math"
	"slices"
	"testing"

	"gabion/api"
	"gabion/record"
	"gabion/remap"
)

// laid: a table's bytes, by hand.
func laid(t remap.Table) []byte {
	b := binary.LittleEndian.AppendUint32(nil, t.Seq)
	b = append(b, byte(len(t.Place)))
	for _, n := range t.Place {
		b = append(b, byte(n))
	}
	b = append(b, byte(len(t.Spare)))
	for _, n := range t.Spare {
		b = append(b, byte(n))
	}
	return append(b, byte(t.Tables[0]), byte(t.Tables[1]))
}

// sealed: a page with these bytes.
func sealed(h record.Header, data []byte) remap.Page {
	return remap.Page{Data: data, Oob: record.Seal(h, data, nil)}
}

// cut: bytes as pages of a table, so many to each, as if that were their size.
func cut(b []byte, size int, seq uint32) []remap.Page {
	many := (len(b) + size - 1) / size
	var l []remap.Page
	for i := range many {
		part := make([]byte, size)
		copy(part, b[i*size:])
		l = append(l, sealed(record.Header{Kind: record.Table, Epoch: seq, Index: uint16(i), Count: uint16(many)}, part))
	}
	return l
}

// P6.1: a table's bytes, one by one.
func TestEncode(t *testing.T) {
	x := remap.Table{Seq: 0x04030201, Place: []int{15, 0, 14, 1, 13, 2, 12, 3, 11, 4, 10}, Spare: []int{9, 5}, Tables: [2]int{8, 6}}
	want := []byte{1, 2, 3, 4, 11, 15, 0, 14, 1, 13, 2, 12, 3, 11, 4, 10, 2, 9, 5, 8, 6}
	if b, e := x.Encode(small); e != api.OK || !bytes.Equal(b, want) {
		t.Error(b, e)
	}
	x.Spare = nil
	want = append(want[:16:16], 0, 8, 6)
	if b, e := x.Encode(small); e != api.OK || !bytes.Equal(b, want) {
		t.Error(b, e)
	}
	for _, g := range shapes {
		for spare := range 4 {
			x := table(g, uint32(spare)<<24, spare)
			if b, e := x.Encode(g); e != api.OK || !bytes.Equal(b, laid(x)) {
				t.Error(g, spare, b, e)
			}
		}
	}
}

// P6.1: of what isn't a table of the shape there are neither bytes nor pages, but Check's error.
func TestEncodeRefuses(t *testing.T) {
	for _, g := range shapes {
		for name, x := range wrong(g) {
			if b, e := x.Encode(g); e != api.Form || len(b) != 0 {
				t.Error(g, name, e, b)
			}
			if l, e := x.Pages(g); e != api.Form || len(l) != 0 {
				t.Error(g, name, e, l)
			}
		}
	}
	for _, g := range wrongShapes() {
		x := table(small, 1, 3)
		if b, e := x.Encode(g); e != api.Range || len(b) != 0 {
			t.Error(g, e, b)
		}
		if l, e := x.Pages(g); e != api.Range || len(l) != 0 {
			t.Error(g, e, l)
		}
	}
}

// P6.1: bytes are decoded as the table that they are; noughts may stand behind, nothing else.
func TestDecode(t *testing.T) {
	for _, g := range shapes {
		for spare := range 4 {
			for _, seq := range []uint32{0, 1, 0x04030201, math.MaxUint32} {
				x := table(g, seq, spare)
				b := laid(x)
				if got, e := remap.Decode(b, g); e != api.OK || !same(got, x) {
					t.Error(g, spare, e, got)
				}
				for _, n := range []int{1, 2, 100, 2000} {
					more := append(slices.Clone(b), make([]byte, n)...)
					if got, e := remap.Decode(more, g); e != api.OK || !same(got, x) {
						t.Error(g, spare, n, "noughts behind:", e, got)
					}
					for _, i := range []int{len(b), len(more) - 1, len(b) + n/2} {
						more[i] = 1 << (n % 8)
						if got, e := remap.Decode(more, g); e != api.Form || !zero(got) {
							t.Error(g, spare, n, i, "another byte behind:", e, got)
						}
						more[i] = 0
					}
				}
				for n := range b {
					if got, e := remap.Decode(b[:n], g); e != api.Form || !zero(got) {
						t.Error(g, spare, n, "they run out:", e, got)
					}
				}
			}
		}
	}
}

// P6.1: bytes that name no table of the shape.
func TestDecodeRefuses(t *testing.T) {
	for _, g := range shapes {
		b := laid(table(g, 5, 2))
		at := map[string]int{"how many places": 4, "a place": 5, "the last place": 4 + g.Virtual(), "how many in reserve": 5 + g.Virtual(), "in reserve": 6 + g.Virtual(), "the first of the tables": len(b) - 2, "the second": len(b) - 1}
		for name, i := range at {
			for x := 1; x < 256; x++ {
				c := slices.Clone(b)
				c[i] ^= byte(x)
				got, e := remap.Decode(c, g)
				if unused := name != "how many places" && name != "how many in reserve" && isFree(b, c[i], g); unused {
					if e != api.OK || !bytes.Equal(laid(got), c) {
						t.Error(g, name, c[i], e)
					}
				} else if e != api.Form || !zero(got) {
					t.Error(g, name, c[i], e, got)
				}
			}
		}
		if got, e := remap.Decode(b, shapes[2]); g != shapes[2] && (e != api.Form || !zero(got)) {
			t.Error(g, "another shape:", e, got)
		}
	}
	// What runs out, or has another byte behind, is told ahead of the shape.
	b := laid(table(small, 5, 2))
	for _, g := range wrongShapes() {
		for what, c := range map[string]struct {
			b    []byte
			want api.Errno
		}{
			"whole": {b, api.Range}, "nothing": {nil, api.Form}, "short": {b[:len(b)-1], api.Form}, "more": {append(slices.Clone(b), 3), api.Form}, "noughts": {make([]byte, 8), api.Range},
		} {
			if got, e := remap.Decode(c.b, g); e != c.want || !zero(got) {
				t.Error(g, what, e, got)
			}
		}
	}
	if got, e := remap.Decode([]byte{}, small); e != api.Form || !zero(got) {
		t.Error("nothing:", e, got)
	}
}

// isFree: is it a block of the shape that a table of two in reserve, whose bytes these are, doesn't name?
func isFree(b []byte, block byte, g api.Geo) bool {
	named := slices.Concat(b[5:5+g.Virtual()], b[6+g.Virtual():])
	return int(block) < g.Blocks && !slices.Contains(named, block)
}

// P6.1: a table as pages: its bytes, with noughts behind; each sealed, with its number, its place and how many they are.
func TestPages(t *testing.T) {
	for _, g := range shapes {
		for spare := range 4 {
			x := table(g, 77+uint32(spare), spare)
			b := laid(x)
			l, e := x.Pages(g)
			if e != api.OK || len(l) != (len(b)+g.Size-1)/g.Size {
				t.Fatal(g, spare, e, len(l))
			}
			var all []byte
			for i, p := range l {
				want := record.Header{Kind: record.Table, Epoch: x.Seq, Index: uint16(i), Count: uint16(len(l))}
				if h, ok := record.Open(p.Data, p.Oob); !ok || h != want || len(p.Data) != g.Size {
					t.Error(g, spare, i, h, ok, len(p.Data))
				}
				if !bytes.Equal(p.Oob, record.Seal(want, p.Data, nil)) {
					t.Error(g, spare, i, "something more stands beside it:", p.Oob)
				}
				all = append(all, p.Data...)
			}
			if !bytes.Equal(all[:len(b)], b) || slices.Max(all[len(b):]) != 0 {
				t.Error(g, spare, all)
			}
		}
	}
}

// P6.2: what is laid as pages is joined as it was, whatever stands behind.
func TestJoinWhatWasLaid(t *testing.T) {
	for _, g := range shapes {
		for spare := range 4 {
			for _, seq := range []uint32{0, 1, 255, 256, 1 << 31, math.MaxUint32} {
				x := table(g, seq, spare)
				l, _ := x.Pages(g)
				other, _ := table(g, seq+1, 1).Pages(g)
				for what, behind := range map[string][]remap.Page{"nothing": nil, "a page that is none": {{}}, "itself": l, "another table": other} {
					if got, e := remap.Join(slices.Concat(l, behind), g); e != api.OK || !same(got, x) {
						t.Error(g, spare, seq, "behind it", what, e, got)
					}
				}
			}
		}
	}
}

// P6.1: a table of several pages.
func TestJoinSeveral(t *testing.T) {
	for _, g := range shapes {
		x := table(g, 1<<31+3, 2)
		b := laid(x)
		whole := append(slices.Clone(b), make([]byte, 2*g.Size)...)
		for _, l := range [][]remap.Page{cut(whole, g.Size, x.Seq), cut(b, 1, x.Seq), cut(b, 2, x.Seq), cut(b, 5, x.Seq), cut(b, len(b)-1, x.Seq), cut(b, len(b), x.Seq)} {
			if got, e := remap.Join(l, g); e != api.OK || !same(got, x) {
				t.Error(g, len(l), e, got)
			}
			behind := append(slices.Clone(l), remap.Page{Data: []byte{1}}, l[0])
			if got, e := remap.Join(behind, g); e != api.OK || !same(got, x) {
				t.Error(g, len(l), "with more behind:", e, got)
			}
			for i := range l {
				if got, e := remap.Join(l[:i], g); e != api.Form || !zero(got) {
					t.Error(g, len(l), i, "those behind are missing:", e, got)
				}
				if got, e := remap.Join(slices.Delete(slices.Clone(l), i, i+1), g); e != api.Form || !zero(got) {
					t.Error(g, len(l), i, "is missing:", e, got)
				}
			}
		}
	}
}

// P6.1: each page must be sealed as one of a table, with its place, and with the number and the count of the first.
func TestJoinRefuses(t *testing.T) {
	x := table(small, 9, 3)
	good := cut(laid(x), 8, x.Seq)
	n := len(good)
	if n < 3 {
		t.Fatal(n)
	}
	for i := range good {
		h, ok := record.Open(good[i].Data, good[i].Oob)
		if !ok {
			t.Fatal(i)
		}
		spoilt := func(what string, p remap.Page) {
			l := slices.Clone(good)
			l[i] = p
			if got, e := remap.Join(l, small); e != api.Form || !zero(got) {
				t.Error(i, what, e, got)
			}
		}
		with := func(what string, change func(h *record.Header)) {
			x := h
			change(&x)
			spoilt(what, sealed(x, good[i].Data))
		}
		for _, kind := range []uint8{0, 2, 3, 4, 5, 6, 7, 255} {
			with("another Kind", func(h *record.Header) { h.Kind = kind })
		}
		for _, d := range []uint16{1, 2, 256, math.MaxUint16} {
			with("another Index", func(h *record.Header) { h.Index += d })
			with("another Count", func(h *record.Header) { h.Count += d })
			with("another Epoch", func(h *record.Header) { h.Epoch += uint32(d) << 16 })
		}
		with("the least Count", func(h *record.Header) { h.Count = 0 })
		with("the greatest Count", func(h *record.Header) { h.Count = math.MaxUint16 })
		spoilt("none", remap.Page{})
		spoilt("without anything beside it", remap.Page{Data: good[i].Data})
		spoilt("without bytes", remap.Page{Oob: good[i].Oob})
		spoilt("erased", remap.Page{Data: bytes.Repeat([]byte{255}, 8), Oob: bytes.Repeat([]byte{255}, 64)})
		spoilt("one byte more", remap.Page{Data: append(slices.Clone(good[i].Data), 0), Oob: good[i].Oob})
		data, oob := slices.Clone(good[i].Data), slices.Clone(good[i].Oob)
		data[0] ^= 1
		oob[63] ^= 1
		spoilt("a bit is turned", remap.Page{Data: data, Oob: good[i].Oob})
		spoilt("a bit beside is turned", remap.Page{Data: good[i].Data, Oob: oob})
		spoilt("the next one", good[(i+1)%n])
		// What else a header has isn't asked.
		x := h
		x.Batch, x.Block, x.More = 1, 2, 3
		l := slices.Clone(good)
		l[i] = sealed(x, good[i].Data)
		if got, e := remap.Join(l, small); e != api.OK || !same(got, table(small, 9, 3)) {
			t.Error(i, "more in its header:", e, got)
		}
	}
	for _, none := range [][]remap.Page{nil, {}, {{}}, make([]remap.Page, 9)} {
		if got, e := remap.Join(none, small); e != api.Form || !zero(got) {
			t.Error("no pages:", e, got)
		}
	}
}

// P6.1: a Count of 0 is one page.
func TestJoinCountsOneAtLeast(t *testing.T) {
	x := table(small, 9, 3)
	b := laid(x)
	h := record.Header{Kind: record.Table, Epoch: 9}
	for _, behind := range [][]remap.Page{nil, {sealed(h, b)}, {{}}} {
		if got, e := remap.Join(append([]remap.Page{sealed(h, b)}, behind...), small); e != api.OK || !same(got, x) {
			t.Error(e, got)
		}
	}
	if got, e := remap.Join([]remap.Page{sealed(h, b[:8]), sealed(h, b[8:])}, small); e != api.Form || !zero(got) {
		t.Error("half of it:", e, got)
	}
	h.Index = 1
	if got, e := remap.Join([]remap.Page{sealed(h, b)}, small); e != api.Form || !zero(got) {
		t.Error("another Index:", e, got)
	}
}

// P6.1: what the pages' bytes are is Decode's to tell; then the number must be that of the pages.
func TestJoinTellsDecodesError(t *testing.T) {
	x := table(small, 9, 3)
	b := laid(x)
	one := func(b []byte, seq uint32) []remap.Page {
		return []remap.Page{sealed(record.Header{Kind: record.Table, Epoch: seq, Count: 1}, b)}
	}
	twice := slices.Clone(b)
	twice[5] = twice[6]
	for i, c := range []struct {
		l    []remap.Page
		g    api.Geo
		want api.Errno
	}{
		{one(b, 9), small, api.OK},
		{one(b[:len(b)-1], 9), small, api.Form},
		{one(nil, 9), small, api.Form},
		{one(append(slices.Clone(b), 0, 1), 9), small, api.Form},
		{one(twice, 9), small, api.Form},
		{one(b, 9), shapes[2], api.Form},
		{one(b, 8), small, api.Form},
		{one(b, 10), small, api.Form},
		{one(b, 9+1<<31), small, api.Form},
		{cut(b, 5, 10), small, api.Form},
		{one(b, 9), api.Geo{}, api.Range},
		{one(b, 8), api.Geo{}, api.Range},
		{one(b[:3], 9), api.Geo{}, api.Form},
		{nil, api.Geo{}, api.Form},
		{[]remap.Page{{}}, api.Geo{}, api.Form},
	} {
		got, e := remap.Join(c.l, c.g)
		if e != c.want || e == api.OK != same(got, x) || e != api.OK && !zero(got) {
			t.Error(i, e, got)
		}
	}
}

// P1 (rules 3, 4): what is handed in isn't changed, its spare room neither; answers are new memory; nil and empty are one.
func TestHandedIn(t *testing.T) {
	x := table(small, 9, 2)
	room := append(slices.Clone(x.Spare), 99, 98)
	x.Spare = room[:2]
	kept := copyOf(x)
	b, _ := x.Encode(small)
	pages, _ := x.Pages(small)
	x.Check(small)
	if !same(x, kept) || room[2] != 99 || room[3] != 98 {
		t.Error("the table is changed:", x, room)
	}
	clear(b[:cap(b)])
	again, _ := x.Encode(small)
	if !bytes.Equal(again, laid(x)) {
		t.Error("bytes share memory:", again)
	}
	clear(pages[0].Oob)
	clear(pages[0].Data)
	if l, _ := x.Pages(small); !same(joined(t, l), x) {
		t.Error("pages share memory")
	}
	text := append(laid(x), 0, 0)
	got, _ := remap.Decode(text[:len(text)-1], small)
	if !bytes.Equal(text, append(laid(x), 0, 0)) {
		t.Error("Decode changes its bytes:", text)
	}
	clear(text)
	if !same(got, x) {
		t.Error("Decode keeps its bytes:", got)
	}
	l, _ := x.Pages(small)
	data, oob := slices.Clone(l[0].Data), slices.Clone(l[0].Oob)
	got = joined(t, l)
	if !bytes.Equal(l[0].Data, data) || !bytes.Equal(l[0].Oob, oob) {
		t.Error("Join changes its pages")
	}
	clear(l[0].Data)
	if !same(got, x) {
		t.Error("Join keeps its pages:", got)
	}
	got.Place, got.Spare = append(got.Place, 1), append(got.Spare, 2)
	if !slices.Equal(got.Place[:len(x.Place)], x.Place) || !slices.Equal(got.Spare[:2], x.Spare) {
		t.Error("two lists share memory:", got)
	}
}

// joined: the table of pages, of the smallest shape.
func joined(t *testing.T, l []remap.Page) remap.Table {
	t.Helper()
	x, e := remap.Join(l, small)
	if e != api.OK {
		t.Error("Join:", e)
	}
	return x
}

// P6.2: what Take makes of a table is laid and joined as it is, too.
func TestTakenIsJoined(t *testing.T) {
	for _, g := range shapes {
		x := table(g, 3, 3)
		for _, v := range []int{g.Virtual() - 1, -1, -2} {
			x, _, _ = x.Take(v)
			l, e := x.Pages(g)
			if e != api.OK {
				t.Fatal(g, v, e)
			}
			if got, e := remap.Join(l, g); e != api.OK || !same(got, x) {
				t.Error(g, v, e, got)
			}
		}
	}
}

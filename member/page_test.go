package member_test

import (
	"bytes"
	"encoding/binary"
	"slices"
	"testing"

	"gabion/api"
	"gabion/member"
	"gabion/record"
)

// laid: a set's bytes, by hand, without noughts behind.
func laid(s member.Set, g api.Geo) []byte {
	b := binary.LittleEndian.AppendUint32(nil, s.Seq)
	b = append(b, byte(len(s.Chips)))
	for _, chip := range s.Chips {
		b = append(b, byte(chip))
	}
	b = append(b, byte(s.Spare), byte(s.Dead), byte(s.Done))
	for _, n := range []int{g.Blocks, g.Pages, g.Size} {
		b = binary.LittleEndian.AppendUint16(b, uint16(n))
	}
	return b
}

// whole: bytes with noughts up to a page.
func whole(b []byte, g api.Geo) []byte {
	return append(slices.Clone(b), make([]byte, g.Size-len(b))...)
}

// seal: what stands beside a set's page.
func seal(seq uint32, data []byte) []byte {
	return record.Seal(record.Header{Kind: record.Member, Epoch: seq, Count: 1}, data, nil)
}

// refused: bytes that are refused.
func refused(t *testing.T, what string, g api.Geo, data, oob []byte, want api.Errno) {
	t.Helper()
	if s, e := member.Parse(g, data, oob); e != want || !zero(s) {
		t.Error(g, what, e, s)
	}
}

// P12.1: a set's page, byte by byte.
func TestPage(t *testing.T) {
	s := member.Set{Seq: 0x04030201, Chips: []int{3, 0, 2}, Spare: 1, Dead: 2, Done: 11}
	want := whole([]byte{1, 2, 3, 4, 3, 3, 0, 2, 1, 2, 11, 16, 0, 4, 0, 0, 1}, least)
	data, oob, e := s.Page(least)
	if e != api.OK || !bytes.Equal(data, want) || !bytes.Equal(oob, seal(0x04030201, want)) {
		t.Error(data, oob, e)
	}
	for _, g := range shapes {
		for i, s := range right(g) {
			was := with(s, func(*member.Set) {})
			want := whole(laid(s, g), g)
			data, oob, e := s.Page(g)
			if e != api.OK || !bytes.Equal(data, want) || !bytes.Equal(oob, seal(s.Seq, want)) {
				t.Error(g, i, e, data, oob)
			}
			h, ok := record.Open(data, oob)
			if x, is := record.Tell(h).(record.MemberPage); !ok || !is || x.Seq != s.Seq || h != (record.Header{Kind: record.Member, Epoch: s.Seq, Count: 1}) {
				t.Error(g, i, h, ok)
			}
			if !same(s, was) {
				t.Error(g, i, "is changed")
			}
		}
	}
}

// P12.1: of a set that may not be there is no page, but Check's error.
func TestPageRefuses(t *testing.T) {
	for _, g := range shapes {
		for what, s := range wrong(g) {
			if data, oob, e := s.Page(g); e != api.Form || len(data)+len(oob) > 0 {
				t.Error(g, what, e)
			}
		}
		for _, none := range noShapes {
			if data, oob, e := member.First(g).Page(none); e != api.Range || len(data)+len(oob) > 0 {
				t.Error(g, none, e)
			}
		}
	}
}

// P12.2: what is laid is parsed as it was; answers are new memory.
func TestParse(t *testing.T) {
	for _, g := range shapes {
		for i, s := range right(g) {
			data, oob, e := s.Page(g)
			if e != api.OK {
				t.Fatal(g, i, e)
			}
			was, beside := slices.Clone(data), slices.Clone(oob)
			got, e := member.Parse(g, data, oob)
			if e != api.OK || !same(got, s) {
				t.Error(g, i, e, got)
			}
			got.Chips[0] = 99
			if !bytes.Equal(data, was) || !bytes.Equal(oob, beside) {
				t.Error(g, i, "is changed")
			}
			if again, e := member.Parse(g, data, oob); e != api.OK || !same(again, s) {
				t.Error(g, i, "again:", e, again)
			}
		}
	}
}

// P12.1: a page with any byte of it another one isn't sealed.
func TestParseSum(t *testing.T) {
	for _, g := range shapes[:2] {
		data, oob, _ := right(g)[4].Page(g)
		for i := range data {
			data[i] ^= byte(i) | 1
			refused(t, "another byte:", g, data, oob, api.Sum)
			data[i] ^= byte(i) | 1
		}
		for i := range oob {
			oob[i] ^= byte(i) | 1
			refused(t, "another byte beside:", g, data, oob, api.Sum)
			oob[i] ^= byte(i) | 1
		}
		refused(t, "a byte fewer beside:", g, data, oob[:63], api.Sum)
		refused(t, "a byte more beside:", g, data, append(slices.Clone(oob), 0), api.Sum)
		refused(t, "a byte fewer:", g, data[:g.Size-1], oob, api.Sum)
		refused(t, "nothing:", g, nil, nil, api.Sum)
		refused(t, "nothing beside:", g, data, nil, api.Sum)
		refused(t, "no bytes:", g, nil, oob, api.Sum)
		refused(t, "an erased page:", g, bytes.Repeat([]byte{255}, g.Size), bytes.Repeat([]byte{255}, 64), api.Sum)
		for kind := range 256 {
			if kind != record.Member {
				refused(t, "another kind:", g, data, record.Seal(record.Header{Kind: uint8(kind), Epoch: 1 << 31, Count: 1}, data, nil), api.Sum)
			}
		}
	}
}

// P12.1: a page with any byte another one, sealed again: no set, another set, or another shape's.
func TestParseEachByte(t *testing.T) {
	for _, g := range shapes[:3] {
		s := right(g)[5]
		data, _, _ := s.Page(g)
		many := len(laid(s, g))
		for i := range data {
			for x := 1; x < 256; x++ {
				data[i] ^= byte(x)
				got, e := member.Parse(g, data, seal(s.Seq, data))
				if is := i >= 5 && i < many-6 && e == api.OK; is {
					if got.Check(g) != api.OK || !bytes.Equal(whole(laid(got, g), g), data) {
						t.Error(g, i, x, got)
					}
				} else if e != api.Form || !zero(got) {
					t.Error(g, i, x, e, got)
				}
				data[i] ^= byte(x)
			}
		}
	}
}

// P12.1: sets that may not be, with their pages sealed as they are.
func TestParseChecks(t *testing.T) {
	for _, g := range shapes {
		for what, s := range wrong(g) {
			data := whole(laid(s, g), g)
			got, e := member.Parse(g, data, seal(s.Seq, data))
			// A byte can't hold each wrong number: some are then others, that may be right.
			if e == api.OK && got.Check(g) == api.OK && bytes.Equal(whole(laid(got, g), g), data) {
				continue
			}
			if e != api.Form || !zero(got) {
				t.Error(g, what, e, got)
			}
		}
	}
	for _, s := range []member.Set{
		{Seq: 1, Chips: []int{0, 1, 1}, Spare: 3, Dead: none},
		{Seq: 1, Chips: []int{0, 1, 2}, Spare: 2, Dead: none},
		{Seq: 1, Chips: []int{0, 1, 4}, Spare: 3, Dead: none},
		{Seq: 1, Chips: []int{0, 1, 2}, Spare: 4, Dead: none},
		{Seq: 1, Chips: []int{0, 1, 2}, Spare: 254, Dead: none},
		{Seq: 1, Chips: []int{0, 1, 2}, Spare: 3, Dead: 3},
		{Seq: 1, Chips: []int{0, 1, 2}, Spare: 3, Dead: 0, Done: 12},
		{Seq: 1, Chips: []int{0, 1, 2}, Spare: 3, Dead: none, Done: 1},
		{Seq: 1, Chips: []int{0, 1, 2}, Spare: none, Dead: 0, Done: 1},
		{Seq: 1, Chips: []int{0, 1}, Spare: 3, Dead: none},
		{Seq: 1, Chips: []int{0, 1, 2, 3}, Spare: none, Dead: none},
	} {
		data := whole(laid(s, least), least)
		refused(t, "may not be:", least, data, seal(1, data), api.Form)
	}
}

// P12.1: bytes that run out, with another Epoch, another shape, another byte behind.
func TestParseForm(t *testing.T) {
	for _, g := range shapes {
		s := right(g)[6]
		b := laid(s, g)
		for n := range b {
			refused(t, "they run out:", g, b[:n], seal(s.Seq, b[:n]), api.Form)
		}
		for n := len(b); n < g.Size+3; n += 50 {
			data := append(slices.Clone(b), make([]byte, n-len(b))...)
			if got, e := member.Parse(g, data, seal(s.Seq, data)); e != api.OK || !same(got, s) {
				t.Error(g, n, "bytes:", e, got)
			}
		}
		data := whole(b, g)
		for _, epoch := range []uint32{0, s.Seq - 1, s.Seq + 1, s.Seq + 1<<31, s.Seq << 8} {
			refused(t, "another Epoch:", g, data, seal(epoch, data), api.Form)
		}
		for _, of := range shapes {
			if of != g {
				refused(t, "another shape:", of, data, seal(s.Seq, data), api.Form)
			}
		}
		for _, change := range []func(g *api.Geo){
			func(g *api.Geo) { g.Chips++ }, func(g *api.Geo) { g.Blocks++ }, func(g *api.Geo) { g.Pages++ }, func(g *api.Geo) { g.Size += 64 },
			func(g *api.Geo) { g.Blocks += 1 << 16 }, func(g *api.Geo) { g.Pages += 1 << 16 }, func(g *api.Geo) { g.Size += 1 << 16 },
		} {
			of := g
			change(&of)
			refused(t, "another shape:", of, data, seal(s.Seq, data), api.Form)
		}
	}
}

// P12.1: what stands beside more, and the header's other numbers, aren't asked.
func TestParseBeside(t *testing.T) {
	s := right(least)[4]
	data, _, _ := s.Page(least)
	h := record.Header{Kind: record.Member, Epoch: s.Seq, Batch: 1, Index: 2, Count: 3, Block: 4, More: 5}
	if got, e := member.Parse(least, data, record.Seal(h, data, bytes.Repeat([]byte{7}, 32))); e != api.OK || !same(got, s) {
		t.Error(e, got)
	}
}

// P1 (rule 1): Sum ahead of Form, Form ahead of the shape's Range.
func TestParseOrder(t *testing.T) {
	s := member.First(least)
	b := laid(s, least)
	for _, g := range noShapes {
		refused(t, "not sealed:", g, b, make([]byte, 64), api.Sum)
		refused(t, "they run out:", g, b[:9], seal(1, b[:9]), api.Form)
		data := whole(b, least)
		refused(t, "another shape:", g, data, seal(1, data), api.Form)
	}
	none := api.Geo{Chips: 3, Blocks: 15, Pages: 3, Size: 257}
	data := laid(s, none)
	refused(t, "a shape that is none:", none, data, seal(1, data), api.Range)
	refused(t, "another Epoch:", none, data, seal(2, data), api.Form)
	data = append(data, 1)
	refused(t, "another byte behind:", none, data, seal(1, data), api.Form)
	data = laid(with(s, func(s *member.Set) { s.Dead = 7 }), none)
	refused(t, "a set that may not be:", none, data, seal(1, data), api.Range)
	for _, g := range []api.Geo{{}, {Chips: 2, Blocks: 16, Pages: 4, Size: 256}, {Chips: 17, Blocks: 16, Pages: 4, Size: 256}} {
		data := laid(member.First(g), g)
		refused(t, "a count of members that is none:", g, data, seal(1, data), api.Range)
	}
}

// P1 (rule 4): spare room of a set's chips isn't changed.
func TestSpareRoom(t *testing.T) {
	for _, g := range shapes {
		room := append(rising(g.Chips), 70, 71)
		s := member.Set{Seq: 1, Chips: room[:g.Chips], Spare: g.Chips, Dead: none}
		s.Check(g)
		s.Page(g)
		member.Newest(s, s)
		if !slices.Equal(room[g.Chips:], []int{70, 71}) {
			t.Error(g, room)
		}
	}
}

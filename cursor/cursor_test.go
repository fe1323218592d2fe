package cursor_test

import (
	"bytes"
	"math"
	"strings"
	"testing"

	"gabion/cursor"
)

// P1.1: numbers, the lowest byte first, in any count.
func TestNumbersAreLaid(t *testing.T) {
	w := func() *cursor.Writer { return &cursor.Writer{} }
	for _, c := range []struct {
		name string
		got  *cursor.Writer
		want []byte
	}{
		{"none", w(), nil},
		{"no numbers", w().U8().U16().U32().U64(), nil},
		{"nil lists", w().U8(nil...).U16(nil...).U32(nil...).U64(nil...).Raw(nil), nil},
		{"U8", w().U8(0, 1, 255), []byte{0, 1, 255}},
		{"U16", w().U16(513, 0, math.MaxUint16), []byte{1, 2, 0, 0, 255, 255}},
		{"U32", w().U32(0x04030201, 1<<31), []byte{1, 2, 3, 4, 0, 0, 0, 128}},
		{"U64", w().U64(0x0807060504030201, 1<<63), []byte{1, 2, 3, 4, 5, 6, 7, 8, 0, 0, 0, 0, 0, 0, 0, 128}},
		{"Raw", w().Raw([]byte{9, 0}).Raw([]byte{}).Raw([]byte{8}), []byte{9, 0, 8}},
		{"the chapter's example", w().U16(513).Text("ab"), []byte{1, 2, 2, 97, 98}},
		{"one behind the other", w().U8(1).U32(2).U16(3).Raw([]byte{4}), []byte{1, 2, 0, 0, 0, 3, 0, 4}},
	} {
		if b := c.got.Bytes(); !bytes.Equal(b, c.want) {
			t.Errorf("%s: %v, want %v", c.name, b, c.want)
		}
	}
}

// P1.1: a text is its count and its bytes; those beyond 255 are cut, also within a letter.
func TestTextsAreLaid(t *testing.T) {
	long := strings.Repeat("a", 254)
	for _, c := range []struct{ text, want string }{
		{"", "\x00"},
		{"a", "\x01a"},
		{"\xff\x00", "\x02\xff\x00"},
		{long, "\xfe" + long},
		{long + "b", "\xff" + long + "b"},
		{long + "bc", "\xff" + long + "b"},
		{long + "é", "\xff" + long + "\xc3"},
		{strings.Repeat("xy", 1000), "\xff" + strings.Repeat("xy", 127) + "x"},
	} {
		w := &cursor.Writer{}
		if b := w.Text(c.text).Bytes(); string(b) != c.want {
			t.Errorf("a text of %d bytes: %q", len(c.text), b)
		}
	}
}

// P1.1: noughts up to a length in all; none where there are as many bytes already.
func TestPad(t *testing.T) {
	for _, c := range []struct {
		to   int
		want []byte
	}{
		{math.MinInt, []byte{7, 8}},
		{-1, []byte{7, 8}},
		{0, []byte{7, 8}},
		{1, []byte{7, 8}},
		{2, []byte{7, 8}},
		{3, []byte{7, 8, 0}},
		{6, []byte{7, 8, 0, 0, 0, 0}},
	} {
		w := (&cursor.Writer{}).U8(7, 8).Pad(c.to)
		if b := w.Bytes(); !bytes.Equal(b, c.want) {
			t.Errorf("Pad(%d): %v", c.to, b)
		}
	}
	if b := (&cursor.Writer{}).Pad(2).U8(1).Pad(4).Bytes(); !bytes.Equal(b, []byte{0, 0, 1, 0}) {
		t.Error("between pads:", b)
	}
}

// P1 (rule 6): a length that no answer can have is borne, too.
func TestPadBeyondAllLengths(t *testing.T) {
	w := &cursor.Writer{}
	if w.Pad(math.MaxInt) != w || w.Pad(math.MaxInt-1) != w {
		t.Error("Pad answers its writer")
	}
}

// P1.1: each call answers the writer itself.
func TestCallsAnswerTheirWriter(t *testing.T) {
	w := &cursor.Writer{}
	for i, x := range []*cursor.Writer{w.U8(1), w.U16(1), w.U32(1), w.U64(1), w.Raw([]byte{1}), w.Text("1"), w.Pad(99), w.Pad(0), w.U8()} {
		if x != w {
			t.Error("call", i)
		}
	}
}

// P1.1: a nil writer lays nothing, and is answered.
func TestNilWriter(t *testing.T) {
	var w *cursor.Writer
	for i, x := range []*cursor.Writer{w.U8(1), w.U16(1), w.U32(1), w.U64(1), w.Raw([]byte{1}), w.Text("1"), w.Pad(9), w.Pad(-1), w.U8()} {
		if x != nil {
			t.Error("call", i)
		}
	}
	if b := w.U8(1).Text("a").Pad(9).Bytes(); len(b) != 0 {
		t.Error(b)
	}
}

// P1.3: Bytes answers new memory, and lays nothing.
func TestBytesAreNewMemory(t *testing.T) {
	w := (&cursor.Writer{}).U8(1, 2, 3)
	first, second := w.Bytes(), w.Bytes()
	first[0] = 9
	_ = append(first[:1], 9, 9)
	w.U8(4)
	if !bytes.Equal(second, []byte{1, 2, 3}) {
		t.Error("another answer changed:", second)
	}
	if b := w.Bytes(); !bytes.Equal(b, []byte{1, 2, 3, 4}) {
		t.Error("the writer changed:", b)
	}
	if !bytes.Equal(first, []byte{9, 9, 9}) {
		t.Error("an answer is the writer's:", first)
	}
}

// P1.3: lists that are handed in aren't changed, their spare room neither, and not kept.
func TestWriterLeavesListsAlone(t *testing.T) {
	room := []byte{1, 2, 3, 4}
	w := (&cursor.Writer{}).Raw(room[:2])
	w.U8(5)
	v := (&cursor.Writer{}).U8(room[:2]...)
	v.U8(6)
	if !bytes.Equal(room, []byte{1, 2, 3, 4}) {
		t.Error("changed:", room)
	}
	room[0] = 9
	if b := w.Bytes(); !bytes.Equal(b, []byte{1, 2, 5}) {
		t.Error("Raw kept its list:", b)
	}
	if b := v.Bytes(); !bytes.Equal(b, []byte{1, 2, 6}) {
		t.Error("U8 kept its list:", b)
	}
	wide := []uint16{1, 2, 3}
	(&cursor.Writer{}).U16(wide[:1]...).U16(7)
	if wide[0] != 1 || wide[1] != 2 || wide[2] != 3 {
		t.Error("changed:", wide)
	}
}

package point_test

import (
	"bytes"
	"encoding/binary"
	"math"
	"slices"
	"testing"

	"gabion/api"
	"gabion/point"
)

// top is the greatest number.
const top = math.MaxUint32

// numbers: so many, the same in each run.
func numbers(n int, seed uint32) []uint32 {
	l := make([]uint32, n)
	for i := range l {
		seed = seed*1664525 + 1013904223
		l[i] = seed
	}
	return l
}

// same: are two points one?
func same(a, b point.Point) bool {
	return a.Seq == b.Seq && a.Batch == b.Batch && slices.Equal(a.Map, b.Map) && slices.Equal(a.Erases, b.Erases)
}

// none: is a point none?
func none(p point.Point) bool { return same(p, point.Point{}) }

// laid: numbers as bytes.
func laid(l ...uint32) []byte {
	var b []byte
	for _, n := range l {
		b = binary.LittleEndian.AppendUint32(b, n)
	}
	return b
}

// some: points of all kinds: with no numbers at all, with numbers in one of its rows only, in both.
func some() []point.Point {
	return []point.Point{
		{},
		{Seq: 1},
		{Batch: 1},
		{Seq: top, Batch: top},
		{Seq: 6, Map: []uint32{0}},
		{Seq: 6, Erases: []uint32{0}},
		{Seq: 7, Batch: 2, Map: []uint32{1, 0, top}},
		{Seq: 7, Batch: 2, Erases: []uint32{1, 0, top}},
		{Seq: 0x04030201, Batch: 0x08070605, Map: []uint32{0x0C0B0A09, 0}, Erases: []uint32{0x100F0E0D}},
		{Seq: 9, Batch: 3, Map: []uint32{0, 0, 0}, Erases: []uint32{0, 0}},
		{Seq: 10, Batch: 31, Map: numbers(700, 3), Erases: numbers(59, 4)},
	}
}

// P14.1: a point's bytes.
func TestEncode(t *testing.T) {
	for _, p := range some() {
		want := laid(p.Seq, p.Batch, uint32(len(p.Map)), uint32(len(p.Erases)))
		want = append(append(want, laid(p.Map...)...), laid(p.Erases...)...)
		if got := p.Encode(); !bytes.Equal(got, want) {
			t.Error(p, got)
		}
	}
	p := point.Point{Seq: 0x04030201, Batch: 5, Map: []uint32{6, 0x0A090807}, Erases: []uint32{11}}
	want := []byte{1, 2, 3, 4, 5, 0, 0, 0, 2, 0, 0, 0, 1, 0, 0, 0, 6, 0, 0, 0, 7, 8, 9, 10, 11, 0, 0, 0}
	if got := p.Encode(); !bytes.Equal(got, want) {
		t.Error(got)
	}
	if a, b := (point.Point{Map: []uint32{}, Erases: []uint32{}}).Encode(), (point.Point{}).Encode(); !bytes.Equal(a, b) {
		t.Error("nil and empty lists are two:", a, b)
	}
}

// P14.1: and back, with any number of noughts behind.
func TestDecode(t *testing.T) {
	for _, p := range some() {
		for _, n := range []int{0, 1, 3, 4, 17, 1000} {
			got, e := point.Decode(append(p.Encode(), make([]byte, n)...))
			if e != api.OK || !same(got, p) {
				t.Error(p, n, got, e)
			}
		}
	}
}

// P14.1: what runs out at any place, and another byte than 0 behind.
func TestDecodeForm(t *testing.T) {
	form := func(what string, b []byte) {
		t.Helper()
		if p, e := point.Decode(b); e != api.Form || !none(p) {
			t.Error(what, p, e)
		}
	}
	form("nothing", nil)
	form("nothing", []byte{})
	for _, p := range some() {
		b := p.Encode()
		for n := range b {
			form("it runs out", b[:n])
			form("it runs out, and was full", bytes.Repeat([]byte{255}, n))
		}
		for n := range 9 {
			for _, x := range []byte{1, 128, 255} {
				more := append(slices.Clone(b), make([]byte, 9)...)
				more[len(b)+n] = x
				form("another byte behind", more)
				form("another byte at the end", more[:len(b)+n+1])
			}
		}
	}
}

// P14.1, P1 (rule 6): counts that are greater than what is there, or than any slice may be.
func TestDecodeCounts(t *testing.T) {
	for _, n := range []uint32{3, 4, 1000, 1 << 16, 1 << 29, 1 << 30, 1<<30 + 1, 1<<31 - 1, 1 << 31, 1<<31 + 1, top - 3, top - 1, top} {
		for _, b := range [][]byte{laid(1, 2, n, 0, 7, 8), laid(1, 2, 0, n, 7, 8), laid(1, 2, n, n, 7, 8), laid(1, 2, 1, n, 7, 8), laid(1, 2, 2, n, 7, 8), laid(1, 2, n, top, 7, 8), laid(1, 2, top, n, 7, 8), laid(1, 2, n, 0), laid(1, 2, 0, n), laid(1, 2, -n, n, 7, 8)} {
			if p, e := point.Decode(b); e != api.Form || !none(p) {
				t.Error(n, len(b), p, e)
			}
		}
	}
	// As many as are there, in one of both or in either.
	for n := range uint32(3) {
		p, e := point.Decode(laid(1, 2, n, 2-n, 7, 8))
		if l := []uint32{7, 8}; e != api.OK || !same(p, point.Point{Seq: 1, Batch: 2, Map: l[:n], Erases: l[n:]}) {
			t.Error(n, p, e)
		}
	}
	// Fewer than are there: what is behind isn't 0.
	for n := range uint32(2) {
		if p, e := point.Decode(laid(1, 2, n, 1-n, 7, 8)); e != api.Form || !none(p) {
			t.Error(n, p, e)
		}
	}
}

// P1 (rule 4): lists aren't changed, nor kept; answers are new memory.
func TestNewMemory(t *testing.T) {
	all := numbers(9, 1)
	was := slices.Clone(all)
	p := point.Point{Seq: 4, Batch: 5, Map: all[:3:6], Erases: all[6:8]}
	b := p.Encode()
	again := p.Encode()
	for i := range b[:cap(b)] {
		b[:cap(b)][i] ^= 0xEE
	}
	if !slices.Equal(all, was) || !bytes.Equal(again, p.Encode()) {
		t.Error("Encode's answer isn't its own")
	}
	in := append(p.Encode(), 0, 0, 0)
	kept := slices.Clone(in)
	got, e := point.Decode(in[:len(in)-2])
	if e != api.OK || !bytes.Equal(in, kept) {
		t.Error("Decode changes bytes", e)
	}
	for i := range in {
		in[i] ^= 0xEE
	}
	if !same(got, p) {
		t.Error("Decode keeps bytes")
	}
	m, l := got.Map[:cap(got.Map)], got.Erases[:cap(got.Erases)]
	for i := range m {
		m[i] = 77
	}
	if !slices.Equal(l[:2], p.Erases) {
		t.Error("two lists of an answer share memory")
	}
}

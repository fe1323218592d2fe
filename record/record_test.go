package record_test

import (
	"bytes"
	"encoding/binary"
	"hash/crc32"
	"slices"
	"testing"

	"gabion/record"
)

// sample: n bytes, the same in each run.
func sample(n int, seed uint32) []byte {
	b := make([]byte, n)
	for i := range b {
		seed = seed*1664525 + 1013904223
		b[i] = byte(seed >> 24)
	}
	return b
}

// full is a header with another value in each byte.
var full = record.Header{Kind: record.Data, Epoch: 0x04030201, Batch: 0x08070605, Index: 0x0A09, Count: 0x0C0B, Block: 0x100F0E0D, More: 0x14131211}

// headers: some of each kind, among them the least and the greatest numbers.
func headers() []record.Header {
	var l []record.Header
	for kind := uint8(record.Table); kind <= record.Fill; kind++ {
		h := full
		h.Kind = kind
		l = append(l, h, record.Header{Kind: kind}, record.Header{Kind: kind, Epoch: 1<<32 - 1, Batch: 1<<32 - 1, Index: 1<<16 - 1, Count: 1<<16 - 1, Block: 1<<32 - 1, More: 1<<32 - 1})
	}
	return l
}

// sealed: what stands beside a page, laid by hand; magic, and the bytes that are nought, are what they are told to be.
func sealed(h record.Header, data, more []byte, magic uint16, nought byte, noughts uint32) []byte {
	b := binary.LittleEndian.AppendUint16(nil, magic)
	b = append(b, h.Kind, nought)
	b = binary.LittleEndian.AppendUint32(b, h.Epoch)
	b = binary.LittleEndian.AppendUint32(b, h.Batch)
	b = binary.LittleEndian.AppendUint16(b, h.Index)
	b = binary.LittleEndian.AppendUint16(b, h.Count)
	b = binary.LittleEndian.AppendUint32(b, h.Block)
	b = binary.LittleEndian.AppendUint32(b, h.More)
	of := crc32.Checksum(slices.Concat(b, data, more), crc32.MakeTable(crc32.Castagnoli))
	b = binary.LittleEndian.AppendUint32(b, of)
	b = binary.LittleEndian.AppendUint32(b, noughts)
	return append(b, more...)
}

// closed: nothing is opened.
func closed(t *testing.T, what string, data, oob []byte) {
	t.Helper()
	if h, ok := record.Open(data, oob); ok || h != (record.Header{}) {
		t.Error(what, "is opened:", h, ok)
	}
}

// The numbers that the document names.
func TestConstants(t *testing.T) {
	if record.Magic != 0x5754 || record.Size != 32 || record.Table != 1 || record.Member != 2 || record.Point != 3 || record.Data != 4 || record.Parity != 5 || record.Fill != 6 {
		t.Error("another constant")
	}
}

// P5.1: what stands beside a page, byte by byte; pages of any length.
func TestSeal(t *testing.T) {
	want := []byte{0x54, 0x57, 4, 0, 1, 2, 3, 4, 5, 6, 7, 8, 9, 10, 11, 12, 13, 14, 15, 16, 17, 18, 19, 20}
	b := record.Seal(full, nil, nil)
	if len(b) != 64 || !bytes.Equal(b[:24], want) || !bytes.Equal(b[28:], make([]byte, 36)) {
		t.Fatal(b)
	}
	for _, h := range append(headers(), record.Header{}, record.Header{Kind: 7}, record.Header{Kind: 255}) {
		for _, n := range []int{0, 1, 31, 64, 255, 256, 257, 1024, 3000} {
			data, more := sample(n, 1), sample(32, 2)
			if b := record.Seal(h, data, more); !bytes.Equal(b, sealed(h, data, more, 0x5754, 0, 0)) {
				t.Fatal(h, n, b)
			}
		}
	}
}

// P5.1: of the bytes beside it 32 are kept; where there are fewer, noughts stand behind.
func TestSealBeside(t *testing.T) {
	data := sample(256, 1)
	for _, n := range []int{0, 1, 2, 16, 31, 32, 33, 64, 1000} {
		beside := sample(n, 3)
		more := append(slices.Clone(beside), make([]byte, 32)...)[:32]
		b := record.Seal(full, data, beside)
		if !bytes.Equal(b, sealed(full, data, more, 0x5754, 0, 0)) {
			t.Error(n, b)
		}
		if h, ok := record.Open(data, b); !ok || h != full {
			t.Error(n, "opened:", h, ok)
		}
	}
}

// P5.2: what is sealed is opened as it was: each kind, pages of any length.
func TestOpenWhatWasSealed(t *testing.T) {
	for _, h := range headers() {
		for _, n := range []int{0, 1, 255, 256, 1024} {
			for _, beside := range [][]byte{nil, sample(5, 1), bytes.Repeat([]byte{255}, 32)} {
				data := sample(n, 4)
				got, ok := record.Open(data, record.Seal(h, data, beside))
				if !ok || got != h {
					t.Error(h, n, got, ok)
				}
			}
		}
	}
}

// P5.1: only the kinds 1 to 6 are opened.
func TestOpenKinds(t *testing.T) {
	data := sample(256, 1)
	for kind := range 256 {
		h := full
		h.Kind = uint8(kind)
		b := record.Seal(h, data, nil)
		if kind < 1 || kind > 6 {
			closed(t, "another kind", data, b)
		} else if got, ok := record.Open(data, b); !ok || got != h {
			t.Error(kind, got, ok)
		}
	}
}

// P5.1: what isn't 64 bytes, or hasn't its magic, its noughts, its sum, isn't opened.
func TestOpenRefuses(t *testing.T) {
	data, more := sample(256, 1), sample(32, 2)
	good := record.Seal(full, data, more)
	for n := range 64 {
		closed(t, "a part", data, good[:n])
	}
	closed(t, "one byte more", data, append(slices.Clone(good), 0))
	closed(t, "twice", data, append(slices.Clone(good), good...))
	closed(t, "nothing", nil, nil)
	closed(t, "noughts", make([]byte, 256), make([]byte, 64))
	closed(t, "an erased page", bytes.Repeat([]byte{255}, 256), bytes.Repeat([]byte{255}, 64))
	closed(t, "another page", sample(256, 2), good)
	closed(t, "a shorter page", data[:255], good)
	closed(t, "a longer page", append(slices.Clone(data), 0), good)
	closed(t, "no page", nil, good)
	if b := sealed(full, data, more, 0x5754, 0, 0); !bytes.Equal(b, good) {
		t.Fatal("another seal")
	}
	for _, magic := range []uint16{0, 0x5457, 0x5755, 0x5654, 0xFFFF} {
		closed(t, "another magic", data, sealed(full, data, more, magic, 0, 0))
	}
	for i := range 8 {
		closed(t, "another byte behind the kind", data, sealed(full, data, more, 0x5754, 1<<i, 0))
	}
	for i := range 32 {
		closed(t, "another byte behind the sum", data, sealed(full, data, more, 0x5754, 0, 1<<i))
	}
}

// P5.2: whatever is turned in one byte of the 64 is found.
func TestTurnedBeside(t *testing.T) {
	for _, n := range []int{0, 256} {
		data := sample(n, 1)
		good := record.Seal(full, data, sample(20, 2))
		for i := range good {
			for x := 1; x < 256; x++ {
				b := slices.Clone(good)
				b[i] ^= byte(x)
				closed(t, "a turned byte", data, b)
			}
		}
	}
}

// P5.2: up to 32 bits in a row that are turned, in the page or in the last 32 bytes beside it, are found.
func TestTurnedBits(t *testing.T) {
	data := sample(40, 1)
	good := record.Seal(full, data, sample(32, 2))
	for long := 1; long <= 32; long++ {
		for _, inner := range []uint32{0, 1<<32 - 1, uint32(long) * 2654435761} {
			for at := 0; at+long <= 8*len(data); at++ {
				closed(t, "turned in the page", turned(data, at, long, inner), good)
			}
			for at := 8 * 32; at+long <= 8*64; at++ {
				closed(t, "turned beside", data, turned(good, at, long, inner))
			}
		}
	}
}

// turned: bytes, of which the first and the last of some bits in a row are turned, and those between that inner names.
func turned(text []byte, at, long int, inner uint32) []byte {
	b := slices.Clone(text)
	for i := range long {
		if i == 0 || i == long-1 || inner>>i&1 == 1 {
			b[(at+i)/8] ^= 1 << ((at + i) % 8)
		}
	}
	return b
}

// P5.1: is a page erased, and what stands beside it?
func TestBlank(t *testing.T) {
	for _, n := range []int{1, 64, 256, 1024} {
		data, oob := bytes.Repeat([]byte{255}, n), bytes.Repeat([]byte{255}, 64)
		if !record.Blank(data, oob) || !record.Blank(data, nil) || !record.Blank(nil, oob) {
			t.Error(n, "isn't blank")
		}
		for i := range data {
			data[i] ^= 1 << (i % 8)
			if record.Blank(data, oob) || record.Blank(data, nil) {
				t.Error(n, "is blank with another byte at", i)
			}
			data[i] = 255
		}
		for i := range oob {
			oob[i] ^= 1 << (i % 8)
			if record.Blank(data, oob) || record.Blank(nil, oob) {
				t.Error(n, "is blank with another byte beside it at", i)
			}
			oob[i] = 255
		}
	}
	if !record.Blank(nil, nil) || !record.Blank([]byte{}, nil) {
		t.Error("nothing isn't blank")
	}
	if record.Blank(make([]byte, 256), make([]byte, 64)) || record.Blank(nil, record.Seal(full, nil, nil)) {
		t.Error("noughts are blank")
	}
}

// P1 (rules 3, 4, 5): what is handed in isn't changed, its spare room neither; an answer is new memory; nil and empty are one.
func TestHandedIn(t *testing.T) {
	room := sample(400, 1)
	same := slices.Clone(room)
	data, beside := room[:256], room[300:310]
	b := record.Seal(full, data, beside)
	again := record.Seal(full, data, beside)
	if !bytes.Equal(room, same) || !bytes.Equal(b, again) {
		t.Error("Seal changes what is handed in")
	}
	long := record.Seal(full, data, room[300:340])
	clear(long)
	clear(again[:cap(again)])
	if h, ok := record.Open(data, b); !ok || h != full || !bytes.Equal(room, same) {
		t.Error("answers share memory:", h, ok)
	}
	kept := slices.Clone(b)
	record.Open(data, b)
	record.Blank(data, b)
	if !bytes.Equal(b, kept) || !bytes.Equal(room, same) {
		t.Error("Open or Blank changes what is handed in")
	}
	if !bytes.Equal(record.Seal(full, nil, nil), record.Seal(full, []byte{}, []byte{})) {
		t.Error("nil isn't empty")
	}
	if h, ok := record.Open([]byte{}, record.Seal(full, nil, nil)); !ok || h != full {
		t.Error("nil isn't empty:", h, ok)
	}
}

package sum_test

import (
	"bytes"
	"hash/crc32"
	"testing"

	"gabion/sum"
)

// sample: n bytes, the same in each run.
func sample(n int, seed uint32) []byte {
	b := make([]byte, n)
	for i := range b {
		seed = seed*1664525 + 1013904223
		b[i] = byte(seed >> 24)
	}
	return b
}

// P2.1: sums that are known (the document's, and those that are published for CRC-32C).
func TestKnownSums(t *testing.T) {
	rising, falling := make([]byte, 32), make([]byte, 32)
	for i := range rising {
		rising[i], falling[31-i] = byte(i), byte(i)
	}
	for _, c := range []struct {
		b    []byte
		want uint32
	}{
		{[]byte("123456789"), 0xE3069283},
		{[]byte("a"), 0xC1D04330},
		{[]byte{0}, 0x527D5351},
		{make([]byte, 32), 0x8A9136AA},
		{bytes.Repeat([]byte{255}, 32), 0x62A8AB43},
		{rising, 0x46DD794E},
		{falling, 0x113FDB5C},
		{nil, 0},
		{[]byte{}, 0},
	} {
		if s := sum.Of(c.b); s != c.want {
			t.Errorf("%v: %X, want %X", c.b, s, c.want)
		}
	}
}

// P2.1: all lengths, against another program's sums.
func TestAgainstAnother(t *testing.T) {
	table := crc32.MakeTable(sum.Poly)
	for n := range 1100 {
		b := sample(n, uint32(n))
		if s := sum.Of(b); s != crc32.Checksum(b, table) {
			t.Errorf("%d bytes: %X", n, s)
		}
	}
	if sum.Poly != crc32.Castagnoli {
		t.Errorf("Poly: %X", sum.Poly)
	}
}

// P2.1: the parts' sum is that of all bytes, wherever they are parted.
func TestParts(t *testing.T) {
	b := []byte("123456789")
	for i := range len(b) + 1 {
		for j := i; j <= len(b); j++ {
			if s := sum.Of(b[:i], nil, b[i:j], []byte{}, b[j:]); s != 0xE3069283 {
				t.Errorf("parted at %d and %d: %X", i, j, s)
			}
		}
	}
	if sum.Of([]byte("12"), []byte("3")) == sum.Of([]byte("3"), []byte("12")) {
		t.Error("the parts' order tells nothing")
	}
}

// P2.1, P1 (rule 3): no parts, nil parts and empty ones are nothing.
func TestNothing(t *testing.T) {
	for i, s := range []uint32{sum.Of(), sum.Of(nil...), sum.Of(nil), sum.Of(nil, nil), sum.Of([]byte{}), sum.Of([][]byte{}...)} {
		if s != 0 {
			t.Errorf("%d: %X", i, s)
		}
	}
}

// P1 (rules 4, 5): parts aren't changed, their spare room neither; the same parts have the same sum again.
func TestPartsAreLeftAlone(t *testing.T) {
	room := []byte("123456789 and more")
	parts := [][]byte{room[:4], room[4:9], room[9:]}
	first := sum.Of(parts[:2]...)
	if again := sum.Of(parts[:2]...); first != 0xE3069283 || again != first {
		t.Errorf("%X, then %X", first, again)
	}
	if string(room) != "123456789 and more" || string(parts[2]) != " and more" || len(parts[0]) != 4 {
		t.Error("changed:", string(room))
	}
}

// P2.2: the sums of three equally long texts, changed by one another, are the sum of the three changed by one another.
func TestThreeTexts(t *testing.T) {
	for n := range 130 {
		a, b, c := sample(n, 1), sample(n, 2), sample(n, 3)
		all := make([]byte, n)
		for i := range all {
			all[i] = a[i] ^ b[i] ^ c[i]
		}
		if sum.Of(all) != sum.Of(a)^sum.Of(b)^sum.Of(c) {
			t.Error("of", n, "bytes")
		}
	}
}

// P2.2: up to 32 bits in a row that are turned, at any place, turn the sum.
func TestTurnedBits(t *testing.T) {
	text := sample(24, 4)
	right := sum.Of(text)
	for long := 1; long <= 32; long++ {
		for at := 0; at+long <= 8*len(text); at++ {
			for _, inner := range []uint32{0, 1<<32 - 1, uint32(at+1) * 2654435761} {
				b := turned(text, at, long, inner)
				if bytes.Equal(b, text) || sum.Of(b) == right {
					t.Fatalf("%d bits from %d on, %X", long, at, inner)
				}
			}
		}
	}
}

// turned: a text, of which the first and the last of some bits in a row are turned, and those between that inner names.
func turned(text []byte, at, long int, inner uint32) []byte {
	b := bytes.Clone(text)
	for i := range long {
		if i == 0 || i == long-1 || inner>>i&1 == 1 {
			b[(at+i)/8] ^= 1 << ((at + i) % 8)
		}
	}
	return b
}

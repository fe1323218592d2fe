package parity_test

import (
	"bytes"
	"slices"
	"testing"

	"gabion/api"
	"gabion/parity"
	"gabion/record"
)

// sample: n bytes, the same in each run.
func sample(n int, seed uint32) []byte {
	b := make([]byte, n)
	for i := range b {
		seed = seed*1664525 + 1013904223
		b[i] = byte(seed >> 24)
	}
	return b
}

// roomy: the same bytes, with room behind them that holds others.
func roomy(b []byte) []byte {
	return append(slices.Clone(b), 1, 2, 3, 4, 5, 6, 7, 8)[:len(b)]
}

// header is a parity page's, with another value in each byte.
var header = record.Header{Kind: record.Parity, Epoch: 0x04030201, Batch: 0x08070605, Index: 0x0A09, Count: 0x0C0B, Block: 0x100F0E0D, More: 0x14131211}

// page: one that is sealed, of a kind, of n bytes, with nothing more beside it.
func page(kind uint8, n int, seed uint32) parity.Page {
	data := sample(n, seed)
	h := record.Header{Kind: kind, Epoch: seed, Batch: seed + 1, Index: uint16(seed + 2), Count: uint16(seed + 3), Block: seed * 7, More: seed * 11}
	return parity.Page{Data: data, Oob: record.Seal(h, data, nil)}
}

// pages: so many that are sealed, of all kinds, of n bytes.
func pages(many, n int) []parity.Page {
	var l []parity.Page
	for i := range many {
		l = append(l, page(uint8(1+i%6), n, uint32(100*n+i+1)))
	}
	return l
}

// without: all pages but one.
func without(l []parity.Page, i int) []parity.Page { return slices.Delete(slices.Clone(l), i, i+1) }

// same: are two pages one?
func same(a, b parity.Page) bool {
	return bytes.Equal(a.Data, b.Data) && bytes.Equal(a.Oob, b.Oob)
}

// copyOf: the same page, by itself.
func copyOf(p parity.Page) parity.Page {
	return parity.Page{Data: slices.Clone(p.Data), Oob: slices.Clone(p.Oob)}
}

// together: parts, byte by byte, reckoned a byte of the answer at a time.
func together(parts ...[]byte) []byte {
	var out []byte
	for i := 0; ; i++ {
		x, there := byte(0), false
		for _, p := range parts {
			if i < len(p) {
				x, there = x^p[i], true
			}
		}
		if !there {
			return out
		}
		out = append(out, x)
	}
}

// P9.1: the example, and others by hand.
func TestXor(t *testing.T) {
	for _, x := range []struct {
		parts [][]byte
		want  []byte
	}{
		{[][]byte{{1, 2}, {1}}, []byte{0, 2}},
		{[][]byte{{1}, {1, 2}}, []byte{0, 2}},
		{nil, nil},
		{[][]byte{}, nil},
		{[][]byte{nil}, nil},
		{[][]byte{{}, nil, {}}, nil},
		{[][]byte{{5, 0, 255}}, []byte{5, 0, 255}},
		{[][]byte{{7, 8}, {7, 8}}, []byte{0, 0}},
		{[][]byte{{7, 8}, {7, 8}, {7, 8}}, []byte{7, 8}},
		{[][]byte{nil, {3}, {}}, []byte{3}},
		{[][]byte{{0x0F, 1}, {0x3C}, {0, 0, 9}, nil, {0xFF, 0x80}}, []byte{0xCC, 0x81, 9}},
	} {
		if got := parity.Xor(x.parts...); !bytes.Equal(got, x.want) {
			t.Error(x.parts, got)
		}
	}
}

// P9.1: any parts, of unlike lengths, in any order.
func TestXorOfAny(t *testing.T) {
	for many := range 20 {
		var parts [][]byte
		for i := range many {
			parts = append(parts, sample((i*37+many*11)%300, uint32(many*100+i)))
		}
		want := together(parts...)
		if got := parity.Xor(parts...); !bytes.Equal(got, want) {
			t.Error(many, got)
		}
		slices.Reverse(parts)
		if got := parity.Xor(parts...); !bytes.Equal(got, want) {
			t.Error(many, "the other way round:", got)
		}
	}
	long := sample(1<<20, 1)
	if got := parity.Xor(long, long[:1<<19]); !bytes.Equal(got[:1<<19], make([]byte, 1<<19)) || !bytes.Equal(got[1<<19:], long[1<<19:]) {
		t.Error("long ones")
	}
}

// P9.1: the parity's bytes, its header, and what stands beside it.
func TestOf(t *testing.T) {
	for many := range 17 {
		l := pages(many, 256)
		var data, heads [][]byte
		for _, p := range l {
			data, heads = append(data, p.Data), append(heads, p.Oob[:32])
		}
		p := parity.Of(header, l...)
		want := together(data...)
		if !bytes.Equal(p.Data, want) || !bytes.Equal(p.Oob, record.Seal(header, want, together(heads...))) {
			t.Error(many, "another parity")
		}
		if h, ok := record.Open(p.Data, p.Oob); !ok || h != header {
			t.Error(many, h, ok)
		}
		if more := append(together(heads...), make([]byte, 32)...)[:32]; !bytes.Equal(p.Oob[32:], more) {
			t.Error(many, p.Oob[32:])
		}
	}
}

// P9.1: it is sealed by any header that it is given.
func TestOfHeader(t *testing.T) {
	l := pages(3, 256)
	for kind := range 256 {
		for _, h := range []record.Header{{Kind: uint8(kind)}, {Kind: uint8(kind), Epoch: 1<<32 - 1, Batch: 1<<32 - 1, Index: 1<<16 - 1, Count: 1<<16 - 1, Block: 1<<32 - 1, More: 1<<32 - 1}} {
			p := parity.Of(h, l...)
			if want := parity.Of(header, l...); !bytes.Equal(p.Data, want.Data) || !bytes.Equal(p.Oob[32:], want.Oob[32:]) || !bytes.Equal(p.Oob, record.Seal(h, p.Data, p.Oob[32:])) {
				t.Error(h, "another parity")
			}
		}
	}
}

// P9.1: of what stands beside a page the first 32 bytes count, and fewer if there are fewer; pages are of any length, none of them need be sealed.
func TestOfBeside(t *testing.T) {
	for _, n := range []int{0, 1, 31, 32, 33, 63, 64, 65, 96, 1000} {
		for _, m := range []int{0, 5, 32, 64, 200} {
			a := parity.Page{Data: sample(n, 1), Oob: sample(n, 2)}
			b := parity.Page{Data: sample(m, 3), Oob: sample(m, 4)}
			p := parity.Of(header, a, b)
			data := together(a.Data, b.Data)
			more := together(a.Oob[:min(n, 32)], b.Oob[:min(m, 32)])
			if !bytes.Equal(p.Data, data) || !bytes.Equal(p.Oob, record.Seal(header, data, more)) {
				t.Error(n, m, "another parity")
			}
			if len(p.Oob) != 64 || !bytes.Equal(p.Oob[32:32+len(more)], more) || !bytes.Equal(p.Oob[32+len(more):], make([]byte, 32-len(more))) {
				t.Error(n, m, p.Oob)
			}
		}
	}
}

// P9.1: of no pages, or empty ones, the parity has no bytes, and is sealed.
func TestOfNothing(t *testing.T) {
	want := record.Seal(header, nil, nil)
	for _, l := range [][]parity.Page{nil, {}, {{}}, {{}, {Data: []byte{}, Oob: []byte{}}}} {
		if p := parity.Of(header, l...); len(p.Data) != 0 || !bytes.Equal(p.Oob, want) {
			t.Error(len(l), p)
		}
	}
	one := page(record.Data, 256, 9)
	if p := parity.Of(header, one, one); !bytes.Equal(p.Data, make([]byte, 256)) || !bytes.Equal(p.Oob[32:], make([]byte, 32)) {
		t.Error("twice the same page")
	}
	if p := parity.Of(header, one); !bytes.Equal(p.Data, one.Data) || !bytes.Equal(p.Oob[32:], one.Oob[:32]) {
		t.Error("one page")
	}
}

// P9.2: each page is made again, out of the others, in any order, and their parity: pages of all kinds and sizes.
func TestMissing(t *testing.T) {
	for many := 1; many < 16; many++ {
		for _, n := range []int{0, 1, 256, 320, 1024} {
			l := pages(many, n)
			with := parity.Of(header, l...)
			for i := range l {
				others := without(l, i)
				if p, e := parity.Missing(with, others...); e != api.OK || !same(p, l[i]) {
					t.Error(many, n, i, e)
				}
				slices.Reverse(others)
				if p, e := parity.Missing(with, others...); e != api.OK || !same(p, l[i]) {
					t.Error(many, n, i, e, "the other way round")
				}
			}
		}
	}
}

// none: no page is made.
func none(t *testing.T, what string, with parity.Page, others ...parity.Page) {
	t.Helper()
	if p, e := parity.Missing(with, others...); e != api.Sum || len(p.Data) != 0 || len(p.Oob) != 0 {
		t.Error(what, e, len(p.Data), len(p.Oob))
	}
}

// P9.1: the parity page must be sealed, as Parity.
func TestMissingWithAnother(t *testing.T) {
	l := pages(3, 256)
	right := parity.Of(header, l...)
	for kind := range 256 {
		h := header
		h.Kind = uint8(kind)
		with := parity.Of(h, l...)
		if kind != record.Parity {
			none(t, "another kind", with, l[1:]...)
		} else if p, e := parity.Missing(with, l[1:]...); e != api.OK || !same(p, l[0]) {
			t.Error("a parity page:", e)
		}
	}
	none(t, "no page", parity.Page{}, l[1:]...)
	none(t, "an empty page", parity.Page{Data: []byte{}, Oob: []byte{}}, l[1:]...)
	none(t, "nothing at all", parity.Page{})
	none(t, "nothing beside it", parity.Page{Data: right.Data}, l[1:]...)
	none(t, "only beside it", parity.Page{Oob: right.Oob}, l[1:]...)
	none(t, "noughts", parity.Page{Data: make([]byte, 256), Oob: make([]byte, 64)}, l[1:]...)
	none(t, "an erased page", parity.Page{Data: bytes.Repeat([]byte{255}, 256), Oob: bytes.Repeat([]byte{255}, 64)}, l[1:]...)
	for n := range 64 {
		none(t, "fewer bytes beside it", parity.Page{Data: right.Data, Oob: right.Oob[:n]}, l[1:]...)
	}
	none(t, "a byte more beside it", parity.Page{Data: right.Data, Oob: append(slices.Clone(right.Oob), 0)}, l[1:]...)
	none(t, "a byte less", parity.Page{Data: right.Data[:255], Oob: right.Oob}, l[1:]...)
	for i := range 256 + 64 {
		with := copyOf(right)
		spoil(with, i)
		none(t, "a spoilt parity page", with, l[1:]...)
	}
}

// spoil turns bits of one of a page's bytes, those beside it counted on.
func spoil(p parity.Page, i int) {
	if i < len(p.Data) {
		p.Data[i] ^= 0x41
		return
	}
	p.Oob[i-len(p.Data)] ^= 0x41
}

// P9.1: what comes out must be sealed: it isn't, if another one is spoilt, isn't there, or is there too many times.
func TestMissingOfOthers(t *testing.T) {
	l := pages(4, 256)
	with := parity.Of(header, l...)
	for i := range 256 + 32 {
		bad := copyOf(l[2])
		spoil(bad, i)
		none(t, "a spoilt page", with, l[0], bad, l[3])
	}
	for i := 256 + 32; i < 256+64; i++ {
		bad := copyOf(l[2])
		spoil(bad, i)
		if p, e := parity.Missing(with, l[0], bad, l[3]); e != api.OK || !same(p, l[1]) {
			t.Error("what stands more beside another one counts:", i, e)
		}
	}
	none(t, "no others", with)
	none(t, "one is lacking", with, l[0], l[1])
	none(t, "all are there", with, l...)
	none(t, "a longer page", with, l[0], l[1], parity.Page{Data: append(slices.Clone(l[2].Data), 0), Oob: l[2].Oob})
	none(t, "nothing beside one", with, l[0], l[1], parity.Page{Data: l[2].Data})
	none(t, "empty pages", with, parity.Page{}, parity.Page{})
	if p, e := parity.Missing(with, l[0], l[1], l[3], parity.Page{}, page(record.Data, 256, 5), page(record.Data, 256, 5)); e != api.OK || !same(p, l[2]) {
		t.Error("pages that are nothing together:", e)
	}
}

// P9.1: any others, in any count, the same one many times among them: it is asked whether what comes out is sealed, and nothing else.
func TestMissingOfAny(t *testing.T) {
	l := append(pages(4, 256), page(record.Fill, 256, 77), parity.Page{}, parity.Page{Data: sample(300, 1), Oob: sample(300, 2)})
	with := parity.Of(header, l[:4]...)
	made := 0
	for n := range len(l) * len(l) * len(l) {
		others := []parity.Page{l[n%len(l)], l[n/len(l)%len(l)], l[n/len(l)/len(l)]}
		data := together(with.Data, others[0].Data, others[1].Data, others[2].Data)
		oob := with.Oob[32:]
		for _, p := range others {
			oob = together(oob, p.Oob[:min(len(p.Oob), 32)])
		}
		want, e := parity.Page{Data: data, Oob: append(oob, make([]byte, 32)...)}, api.OK
		if _, ok := record.Open(want.Data, want.Oob); !ok {
			want, e = parity.Page{}, api.Sum
		} else {
			made++
		}
		if p, got := parity.Missing(with, others...); got != e || !same(p, want) {
			t.Error(n, got, e)
		}
	}
	if made < 4*3*2 {
		t.Error("only so many pages were made:", made)
	}
}

// P9.1: the parity of one page makes that page, of itself; the parity of none makes nothing that is sealed.
func TestMissingOfOne(t *testing.T) {
	one := page(record.Data, 256, 3)
	if p, e := parity.Missing(parity.Of(header, one)); e != api.OK || !same(p, one) {
		t.Error(e)
	}
	none(t, "the parity of none", parity.Of(header))
	none(t, "the parity of one twice", parity.Of(header, one, one))
}

// P9.1: beside what comes out stand 32 noughts: a page beside which stands more isn't made again.
func TestMissingMoreBeside(t *testing.T) {
	a, b := page(record.Data, 256, 3), page(record.Data, 256, 4)
	h, _ := record.Open(a.Data, a.Oob)
	for i := range 32 {
		more := make([]byte, 32)
		more[i] = 1
		c := parity.Page{Data: a.Data, Oob: record.Seal(h, a.Data, more)}
		with := parity.Of(header, c, b)
		none(t, "more beside it", with, b)
		if p, e := parity.Missing(with, c); e != api.OK || !same(p, b) {
			t.Error("the other one:", e)
		}
	}
}

// P9.1: what comes out is as long as the longest page: a shorter one isn't as it was, the longest is.
func TestMissingUnlikeLengths(t *testing.T) {
	short, long := page(record.Data, 256, 3), page(record.Data, 320, 4)
	with := parity.Of(header, short, long)
	none(t, "the shorter one", with, long)
	if p, e := parity.Missing(with, short); e != api.OK || !same(p, long) {
		t.Error("the longer one:", e)
	}
	// 64 noughts behind the page's bytes are what its seal says: then it comes out.
	wide := append(slices.Clone(short.Data), make([]byte, 64)...)
	h, _ := record.Open(short.Data, short.Oob)
	padded := parity.Page{Data: wide, Oob: record.Seal(h, wide, nil)}
	if p, e := parity.Missing(parity.Of(header, padded, long), long); e != api.OK || !same(p, padded) {
		t.Error("with noughts:", e)
	}
}

// P1 (rule 4): what is handed in isn't changed, its spare room neither; answers are new memory, and share none with one another.
func TestNewMemory(t *testing.T) {
	l := pages(3, 256)
	with := parity.Of(header, l...)
	all := append(slices.Clone(l), with)
	var was [][]byte
	for i := range all {
		all[i] = parity.Page{Data: roomy(all[i].Data), Oob: roomy(all[i].Oob)}
		was = append(was, slices.Clone(all[i].Data[:264]), slices.Clone(all[i].Oob[:72]))
	}
	kept := func(what string) {
		t.Helper()
		for i, p := range all {
			if !bytes.Equal(p.Data[:264], was[2*i]) || !bytes.Equal(p.Oob[:72], was[2*i+1]) {
				t.Error(what, "changes what is handed in")
			}
		}
	}
	fill := func(b []byte) {
		for i := range b[:cap(b)] {
			b[:cap(b)][i] = 0xEE
		}
	}
	parts := [][]byte{all[0].Data, all[1].Data, nil}[:2:3]
	fill(parity.Xor(parts...))
	fill(parity.Xor(all[0].Data))
	if parts[:3][2] != nil {
		t.Error("Xor changes a list's spare room")
	}
	kept("Xor")
	for _, n := range []int{1, 3} {
		p := parity.Of(header, all[:n]...)
		oob := slices.Clone(p.Oob)
		fill(p.Data)
		if !bytes.Equal(p.Oob, oob) {
			t.Error("Of answers twice the same memory")
		}
		fill(p.Oob)
		kept("Of")
	}
	p, e := parity.Missing(all[3], all[1:3]...)
	if e != api.OK || !same(p, l[0]) {
		t.Error(e)
	}
	fill(p.Data)
	if !bytes.Equal(p.Oob, l[0].Oob) {
		t.Error("Missing answers twice the same memory")
	}
	fill(p.Oob)
	kept("Missing")
	if p, e := parity.Missing(all[3], all[1:3]...); e != api.OK || !same(p, l[0]) {
		t.Error("asked again:", e)
	}
}

// P1 (rules 3, 6): no call panics, whatever it is given; nil and empty lists are one.
func TestEveryCallEnds(t *testing.T) {
	lists := [][]byte{nil, {}, {1}, sample(31, 1), sample(32, 2), sample(64, 3), sample(256, 4)}
	for _, a := range lists {
		for _, b := range lists {
			for _, c := range lists {
				parity.Xor(a, b, c)
				p := parity.Of(header, parity.Page{Data: a, Oob: b}, parity.Page{Data: c, Oob: a})
				none(t, "any bytes", parity.Page{Data: a, Oob: b}, parity.Page{Data: c, Oob: c})
				none(t, "any others", p, parity.Page{Data: a, Oob: c})
			}
		}
	}
	a, b := parity.Of(header, parity.Page{}), parity.Of(header, parity.Page{Data: []byte{}, Oob: []byte{}})
	if !same(a, b) {
		t.Error("empty lists are others than nil")
	}
	l := pages(2, 256)
	with := parity.Of(header, l...)
	if p, e := parity.Missing(with, l[1], parity.Page{Data: []byte{}}); e != api.OK || !same(p, l[0]) {
		t.Error("an empty page:", e)
	}
}

package nand_test

import (
	"bytes"
	"slices"
	"testing"

	"gabion/api"
	"gabion/nand"
)

// loads: these bytes, with their right sum behind them, are loaded with this error.
func loads(t *testing.T, what string, b []byte, want api.Errno) *nand.Array {
	t.Helper()
	a, e := nand.Load(summed(b))
	if e != want || (a != nil) != (want == api.OK) {
		t.Error(what, "loaded:", e, a != nil)
	}
	return a
}

// body: an image without its sum.
func body(a *nand.Array) []byte {
	b := a.Dump()
	return b[:len(b)-4]
}

// P4.1: an image has all of an array, but what comes and whether the power is gone.
func TestDump(t *testing.T) {
	a, _ := nand.New(small, [][2]int{{0, 1}, {3, 15}}, nand.Event{Op: 3, Kind: nand.Crash, Left: []byte{1, 2, 3}})
	m := newModel(small, nil)
	m.bad[place{0, 1, 0}], m.bad[place{3, 15, 0}] = true, true
	if !bytes.Equal(a.Dump(), m.image()) {
		t.Error("a new one's image")
	}
	data, oob := page(1)
	for _, chip := range []int{0, 2} {
		a.Program(chip, 2, 0, data, oob)
		m.program(chip, 2, 0, data, oob)
	}
	a.Erase(1, 1)
	m.rows[place{1, 1, 0}] = m.left([]byte{1, 2, 3})
	for p := range 4 {
		m.rows[place{1, 1, p}] = m.rows[place{1, 1, 0}]
	}
	m.next[place{1, 1, 0}] = 4
	a.Kill(3)
	m.dead[3] = true
	off := a.Dump()
	a.Boot()
	if !bytes.Equal(off, m.image()) || !bytes.Equal(a.Dump(), off) {
		t.Error("another image")
	}
	if l := len(chips(t).Dump()); l != 4+8+4*(1+16*(6+4))+4 {
		t.Error("an empty one's image has bytes:", l)
	}
}

// P4.3: what is dumped is loaded as it was, with nothing counted and nothing to come.
func TestLoadWhatWasDumped(t *testing.T) {
	for seed := range 20 {
		c := chance(seed)
		m := newModel(small, []nand.Event{{Op: 50, Kind: nand.Crash, Left: c.bytes(9)}, {Op: 60, Kind: nand.Fail, Left: c.bytes(400)}, {Op: 70, Kind: nand.Die, Chip: 2}, {Op: 120, Kind: nand.Crash}})
		a, e := nand.New(small, [][2]int{{1, 3}}, m.events...)
		if e != api.OK {
			t.Fatal(e)
		}
		m.bad[place{1, 3, 0}] = true
		walk(t, &c, a, m, 100)
		b := a.Dump()
		l, e := nand.Load(b)
		if e != api.OK || l.Geo() != small || l.Chips() != 4 || l.Ops() != 0 || l.Off() || !bytes.Equal(l.Dump(), b) || !nand.Same(l, a) {
			t.Fatal(seed, "loaded:", e)
		}
		for chip := range 4 {
			if !slices.Equal(l.Erases(chip), a.Erases(chip)) || l.Dead(chip) != a.Dead(chip) {
				t.Error(seed, chip, "erased or dead")
			}
		}
		m.ops, m.off, m.events = 0, false, nil
		walk(t, &c, l, m, 200)
		if nand.Same(l, a) {
			t.Error(seed, "the loaded one and the dumped one are one")
		}
	}
	g := api.Geo{Chips: 16, Blocks: 64, Pages: 32, Size: 1024}
	a, _ := nand.New(g, nil)
	a.Program(16, 63, 0, bytes.Repeat([]byte{1}, 1024), make([]byte, 64))
	if l, e := nand.Load(a.Dump()); e != api.OK || !nand.Same(a, l) {
		t.Error("the greatest one:", e)
	}
}

// P4.1: how often a block was erased has four bytes, a next page one.
func TestLoadNumbers(t *testing.T) {
	m := newModel(small, nil)
	m.erases[place{2, 7, 0}] = 0xFFEEDDCC
	m.erases[place{0, 0, 0}] = 0x01020304
	l, e := nand.Load(m.image())
	if e != api.OK || l.Erases(2)[7] != 0xFFEEDDCC || l.Erases(0)[0] != 0x01020304 || !bytes.Equal(l.Dump(), m.image()) {
		t.Fatal(e)
	}
	if e := l.Erase(0, 0); e != api.OK || l.Erases(0)[0] != 0x01020305 {
		t.Error(e, l.Erases(0))
	}
}

// P4.1: fewer bytes than a sum has are Form, another sum is Sum.
func TestLoadSum(t *testing.T) {
	for _, b := range [][]byte{nil, {}, {0}, {1, 2}, {0, 0, 0}} {
		if a, e := nand.Load(b); e != api.Form || a != nil {
			t.Error(b, e)
		}
	}
	for _, b := range [][]byte{{0, 0, 0, 1}, {1, 2, 3, 4}, {0, 0, 0, 0, 0}} {
		if a, e := nand.Load(b); e != api.Sum || a != nil {
			t.Error(b, e)
		}
	}
	if a, e := nand.Load(make([]byte, 4)); e != api.Form || a != nil { // the right sum of nothing
		t.Error(e)
	}
	a := chips(t)
	put(a, 0, 0, 0, 1)
	b := a.Dump()
	for i := range b {
		if i > 400 && i < len(b)-8 && i%7 > 0 {
			continue
		}
		b[i] ^= 1 << (i % 8)
		if l, e := nand.Load(b); e != api.Sum || l != nil {
			t.Error("byte", i, "turned:", e)
		}
		b[i] ^= 1 << (i % 8)
	}
	for _, b := range [][]byte{b[:len(b)-1], b[1:], append(slices.Clone(b), 0)} {
		if l, e := nand.Load(b); e != api.Sum || l != nil {
			t.Error(len(b), "bytes:", e)
		}
	}
}

// P4.1: bytes with the right sum that are no array's are Form.
func TestLoadForm(t *testing.T) {
	a := chips(t)
	put(a, 0, 0, 0, 1)
	put(a, 0, 0, 1, 1)
	b := body(a)
	loads(t, "as it is", b, api.OK)
	for n := range len(b) {
		if n < 40 || n > len(b)-20 || n%61 == 0 {
			loads(t, "a part", b[:n], api.Form)
		}
	}
	loads(t, "one byte more", append(slices.Clone(b), 0), api.Form)
	loads(t, "twice", append(slices.Clone(b), b...), api.Form)
	// Byte 12: chip 0 is dead; 13: its block 0 is bad; 14: its next page; 19: page 0 isn't erased; 340: page 1; 661: page 2, erased; 662: page 3.
	for _, c := range []struct {
		at   int
		is   byte
		want api.Errno
	}{
		{0, 0x48, api.Form}, {1, 0, api.Form}, {2, 0, api.Form}, {3, 0, api.Form},
		{12, 1, api.OK}, {12, 2, api.Form}, {12, 255, api.Form},
		{13, 1, api.OK}, {13, 2, api.Form}, {13, 255, api.Form},
		{14, 5, api.Form}, {14, 255, api.Form},
		{14, 1, api.Form}, {14, 0, api.Form}, // a page that isn't ahead of the next one and isn't erased
		{15, 9, api.OK}, {18, 255, api.OK},
		{19, 2, api.Form}, {340, 3, api.Form}, {661, 2, api.Form}, {661, 1, api.Form}, {662, 255, api.Form},
		{20, 77, api.OK},
	} {
		x := slices.Clone(b)
		x[c.at] = c.is
		if l := loads(t, "another byte", x, c.want); c.want == api.OK && !bytes.Equal(body(l), x) {
			t.Error(c, "is lost")
		}
	}
	// The next page, as bytes: it stands there, but it isn't erased.
	x := slices.Concat(b[:661], []byte{1}, make([]byte, 320), b[662:])
	loads(t, "its next page isn't erased", x, api.Form)
	x[14] = 3
	loads(t, "it isn't the next", x, api.OK)
}

// empty: the bytes, but for the sum, of an array of any shape with all pages erased.
func empty(g api.Geo) []byte {
	m := newModel(g, nil)
	b := m.image()
	return b[:len(b)-4]
}

// P4.1: bytes that are those of an array but for a shape that may not be are Range.
func TestLoadShape(t *testing.T) {
	for _, c := range []struct {
		g    api.Geo
		want api.Errno
	}{
		{small, api.OK},
		{api.Geo{Chips: 16, Blocks: 64, Pages: 32, Size: 1024}, api.OK},
		{api.Geo{Chips: 2, Blocks: 16, Pages: 4, Size: 256}, api.Range},
		{api.Geo{Chips: 17, Blocks: 16, Pages: 4, Size: 256}, api.Range},
		{api.Geo{Chips: 3, Blocks: 15, Pages: 4, Size: 256}, api.Range},
		{api.Geo{Chips: 3, Blocks: 65, Pages: 4, Size: 256}, api.Range},
		{api.Geo{Chips: 3, Blocks: 16, Pages: 3, Size: 256}, api.Range},
		{api.Geo{Chips: 3, Blocks: 16, Pages: 33, Size: 256}, api.Range},
		{api.Geo{Chips: 3, Blocks: 16, Pages: 4, Size: 192}, api.Range},
		{api.Geo{Chips: 3, Blocks: 16, Pages: 4, Size: 300}, api.Range},
		{api.Geo{Chips: 3, Blocks: 16, Pages: 4, Size: 1088}, api.Range},
	} {
		a := loads(t, "of a shape", empty(c.g), c.want)
		if c.want == api.OK && (a.Geo() != c.g || a.Chips() != c.g.Chips+1) {
			t.Error(c.g, a.Geo(), a.Chips())
		}
	}
}

// P4.1: two arrays are the same if their images are, whatever comes, was counted, or is off.
func TestSame(t *testing.T) {
	a, b := chips(t), chips(t, nand.Event{Op: 1, Kind: nand.Crash})
	b.Read(0, 0, 0)
	if !nand.Same(a, b) || !nand.Same(a, a) || !nand.Same(b, a) {
		t.Error("they are the same")
	}
	for i, change := range []func(a *nand.Array){
		func(a *nand.Array) { put(a, 0, 0, 0, 1) },
		func(a *nand.Array) { put(a, 3, 15, 0, 1) },
		func(a *nand.Array) { a.Erase(3, 15) },
		func(a *nand.Array) { a.Kill(3) },
	} {
		c := a.Copy()
		change(c)
		if nand.Same(a, c) || nand.Same(c, a) || !nand.Same(c, c.Copy()) {
			t.Error(i, "they aren't the same")
		}
	}
	bad, _ := nand.New(small, [][2]int{{3, 15}})
	other, _ := nand.New(api.Geo{Chips: 4, Blocks: 16, Pages: 4, Size: 256}, nil)
	if nand.Same(a, bad) || nand.Same(a, other) {
		t.Error("another bad block, another shape")
	}
	x, y := a.Copy(), a.Copy()
	put(x, 0, 0, 0, 1)
	put(y, 0, 0, 0, 2)
	if nand.Same(x, y) {
		t.Error("another page")
	}
}

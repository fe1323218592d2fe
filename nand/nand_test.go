package nand_test

import (
	"bytes"
	"slices"
	"testing"

	"gabion/api"
	"gabion/nand"
)

// chips: a small array, for which this comes.
func chips(t *testing.T, events ...nand.Event) *nand.Array {
	t.Helper()
	a, e := nand.New(small, nil, events...)
	if e != api.OK || a == nil {
		t.Fatal("New:", e)
	}
	return a
}

// put programs a page with bytes that hang on a number.
func put(a *nand.Array, chip, b, p int, seed int) api.Errno {
	data, oob := page(seed)
	return a.Program(chip, b, p, data, oob)
}

// page: a page's bytes, and those beside it.
func page(seed int) (data, oob []byte) {
	c := chance(seed)
	return c.bytes(small.Size), c.bytes(api.Oob)
}

// has: does a page hold these bytes?
func has(t *testing.T, a *nand.Array, chip, b, p int, wantData, wantOob []byte) {
	t.Helper()
	data, oob, e := a.Read(chip, b, p)
	if e != api.OK || !bytes.Equal(data, wantData) || !bytes.Equal(oob, wantOob) {
		t.Errorf("page %d of block %d of chip %d: %d %v %v, want %v %v", p, b, chip, e, data, oob, wantData, wantOob)
	}
}

// blank: is a page erased?
func blank(t *testing.T, a *nand.Array, chip, b, p int) {
	t.Helper()
	has(t, a, chip, b, p, bytes.Repeat([]byte{255}, small.Size), bytes.Repeat([]byte{255}, api.Oob))
}

// P4.1: a new array: its shape, one chip more than members, all pages erased, nothing counted, all chips there.
func TestNew(t *testing.T) {
	for _, g := range []api.Geo{small, {Chips: 5, Blocks: 20, Pages: 6, Size: 512}, {Chips: api.MaxChips, Blocks: api.MaxBlocks, Pages: api.MaxPages, Size: api.MaxSize}} {
		a, e := nand.New(g, nil)
		if e != api.OK || a.Geo() != g || a.Chips() != g.Chips+1 || a.Ops() != 0 || a.Off() {
			t.Fatal(g, e, a.Geo(), a.Chips(), a.Ops(), a.Off())
		}
		for c := range a.Chips() {
			if a.Dead(c) || !slices.Equal(a.Erases(c), make([]int, g.Blocks)) {
				t.Error(g, "chip", c, a.Dead(c), a.Erases(c))
			}
		}
		last := []int{g.Chips, g.Blocks - 1, g.Pages - 1}
		data, oob, e := a.Read(last[0], last[1], last[2])
		if e != api.OK || len(data) != g.Size || len(oob) != 64 || slices.Max(data) != 255 || slices.Min(data) != 255 || slices.Min(oob) != 255 {
			t.Error(g, e, data, oob)
		}
		if _, _, e := a.Read(g.Chips+1, 0, 0); e != api.Range {
			t.Error(g, "a chip more:", e)
		}
	}
}

// P4.1: what New doesn't take.
func TestNewRefuses(t *testing.T) {
	many := make([]nand.Event, 201)
	for i := range many {
		many[i] = nand.Event{Op: i + 1, Kind: i % 5}
	}
	for i, c := range []struct {
		g      api.Geo
		bad    [][2]int
		events []nand.Event
		want   api.Errno
	}{
		{small, nil, nil, api.OK},
		{small, [][2]int{}, []nand.Event{}, api.OK},
		{api.Geo{}, nil, nil, api.Range},
		{api.Geo{Chips: 2, Blocks: 16, Pages: 4, Size: 256}, nil, nil, api.Range},
		{api.Geo{Chips: 17, Blocks: 16, Pages: 4, Size: 256}, nil, nil, api.Range},
		{api.Geo{Chips: 3, Blocks: 15, Pages: 4, Size: 256}, nil, nil, api.Range},
		{api.Geo{Chips: 3, Blocks: 65, Pages: 4, Size: 256}, nil, nil, api.Range},
		{api.Geo{Chips: 3, Blocks: 16, Pages: 3, Size: 256}, nil, nil, api.Range},
		{api.Geo{Chips: 3, Blocks: 16, Pages: 33, Size: 256}, nil, nil, api.Range},
		{api.Geo{Chips: 3, Blocks: 16, Pages: 4, Size: 192}, nil, nil, api.Range},
		{api.Geo{Chips: 3, Blocks: 16, Pages: 4, Size: 1088}, nil, nil, api.Range},
		{api.Geo{Chips: 3, Blocks: 16, Pages: 4, Size: 257}, nil, nil, api.Range},
		{api.Geo{Chips: -3, Blocks: -16, Pages: -4, Size: -256}, nil, nil, api.Range},
		{small, nil, many[:200], api.OK},
		{small, nil, many, api.Range},
		{small, nil, make([]nand.Event, 201), api.Range},
		{small, [][2]int{{0, 0}, {3, 15}, {0, 0}}, nil, api.OK},
		{small, [][2]int{{0, 0}, {4, 0}}, nil, api.Range},
		{small, [][2]int{{-1, 0}}, nil, api.Range},
		{small, [][2]int{{0, 16}}, nil, api.Range},
		{small, [][2]int{{0, -1}}, nil, api.Range},
		{small, [][2]int{{1 << 40, -1 << 40}}, nil, api.Range},
	} {
		a, e := nand.New(c.g, c.bad, c.events...)
		if e != c.want || (a != nil) != (e == api.OK) {
			t.Error(i, e, a != nil)
		}
	}
}

// P4.1: blocks that are bad from the beginning can be read, and nothing else.
func TestBadFromTheBeginning(t *testing.T) {
	a, e := nand.New(small, [][2]int{{1, 2}, {3, 15}})
	if e != api.OK {
		t.Fatal(e)
	}
	for _, k := range [][2]int{{1, 2}, {3, 15}} {
		for p := range small.Pages {
			blank(t, a, k[0], k[1], p)
			if e := put(a, k[0], k[1], p, 1); e != api.Fail {
				t.Error(k, p, "programmed:", e)
			}
		}
		if e := a.Erase(k[0], k[1]); e != api.Fail || a.Erases(k[0])[k[1]] != 0 {
			t.Error(k, "erased:", e)
		}
		blank(t, a, k[0], k[1], 0)
	}
	for _, k := range [][2]int{{1, 1}, {1, 3}, {2, 1}, {2, 2}, {0, 15}} {
		if e := put(a, k[0], k[1], 0, 1); e != api.OK {
			t.Error(k, "programmed:", e)
		}
	}
}

// P4.1: what was killed is dead, also with the power gone; a chip that isn't there is dead, and can't be killed.
func TestKill(t *testing.T) {
	a := chips(t, nand.Event{Op: 2, Kind: nand.Crash})
	for _, c := range []int{-1, 4, 5, 1 << 40, -1 << 40} {
		a.Kill(c)
		if !a.Dead(c) {
			t.Error(c, "is there")
		}
	}
	for c := range 4 {
		if a.Dead(c) {
			t.Error(c, "is dead")
		}
	}
	put(a, 2, 0, 0, 1)
	a.Kill(2)
	a.Kill(2)
	a.Read(0, 0, 0)
	if a.Kill(3); !a.Off() || !a.Dead(3) || !a.Dead(2) || a.Dead(1) {
		t.Error(a.Off(), a.Dead(3), a.Dead(2), a.Dead(1))
	}
	a.Boot()
	if _, _, e := a.Read(2, 0, 0); e != api.Dead {
		t.Error("of a dead chip:", e)
	}
	if e := put(a, 2, 0, 1, 1); e != api.Dead {
		t.Error("on a dead chip:", e)
	}
	if e := a.Erase(2, 0); e != api.Dead {
		t.Error("a dead chip:", e)
	}
	if a.Ops() != 5 {
		t.Error("operations:", a.Ops())
	}
	if e := put(a, 1, 0, 0, 1); e != api.OK {
		t.Error("on another one:", e)
	}
}

// P4.1: how often each block was erased: only what was erased counts, and nothing of a chip that isn't there.
func TestErases(t *testing.T) {
	a := chips(t, nand.Event{Op: 4, Kind: nand.Fail}, nand.Event{Op: 6, Kind: nand.Crash})
	for _, c := range []struct {
		chip, b int
		want    api.Errno
	}{{0, 1, api.OK}, {0, 1, api.OK}, {3, 15, api.OK}, {0, 2, api.Fail}, {0, 2, api.Fail}, {0, 1, api.Crash}, {0, 1, api.Crash}} {
		if e := a.Erase(c.chip, c.b); e != c.want {
			t.Error(c, e)
		}
	}
	first, last := make([]int, 16), make([]int, 16)
	first[1], last[15] = 2, 1
	a.Kill(0)
	for c, want := range map[int][]int{0: first, 1: make([]int, 16), 3: last, -1: nil, 4: nil} {
		if l := a.Erases(c); !slices.Equal(l, want) {
			t.Error(c, l, want)
		}
	}
}

// P4.1: a copy is the same, with nothing counted; neither changes the other, and each has only what comes for it.
func TestCopy(t *testing.T) {
	a, e := nand.New(small, [][2]int{{0, 5}}, nand.Event{Op: 5, Kind: nand.Fail, Left: []byte{1}})
	if e != api.OK {
		t.Fatal(e)
	}
	put(a, 0, 0, 0, 1)
	put(a, 0, 0, 1, 2)
	a.Erase(1, 1)
	a.Kill(3)
	same := a.Dump()
	c := a.Copy(nand.Event{Op: 2, Kind: nand.Crash, Left: []byte{7}})
	if c == a || c.Ops() != 0 || a.Ops() != 3 || c.Geo() != small || c.Chips() != 4 || !c.Dead(3) || c.Dead(2) || c.Erases(1)[1] != 1 || !bytes.Equal(c.Dump(), same) || !nand.Same(a, c) {
		t.Fatal("another one:", c.Ops(), a.Ops(), c.Geo(), c.Chips())
	}
	if e := put(c, 0, 0, 2, 3); e != api.OK {
		t.Error("the copy's first:", e)
	}
	if e := c.Erase(0, 0); e != api.Crash || !c.Off() || a.Off() {
		t.Error("the copy's second:", e, c.Off(), a.Off())
	}
	c.Kill(1)
	if a.Dead(1) || !bytes.Equal(a.Dump(), same) || nand.Same(a, c) {
		t.Error("the copy's calls changed the array")
	}
	d := a.Copy()
	put(a, 0, 0, 2, 4)
	if e := a.Erase(2, 2); e != api.Fail {
		t.Error("the array's fifth:", e)
	}
	for i := range 9 {
		if e := d.Erase(2, 2); e != api.OK {
			t.Error("without what comes:", i, e)
		}
	}
	data, oob := page(2)
	has(t, d, 0, 0, 1, data, oob)
	blank(t, d, 0, 0, 2)
	if e := put(d, 0, 5, 0, 1); e != api.Fail {
		t.Error("a copy's bad block:", e)
	}
}

// P4.1, P1 (rule 6): of a nil array: Nil, nothing; it is dead.
func TestNilArray(t *testing.T) {
	var a *nand.Array
	if data, oob, e := a.Read(0, 0, 0); data != nil || oob != nil || e != api.Nil {
		t.Error("Read:", data, oob, e)
	}
	if _, _, e := a.Read(-1, -1, -1); e != api.Nil {
		t.Error("Read:", e)
	}
	data, oob := page(1)
	if e := a.Program(0, 0, 0, data, oob); e != api.Nil {
		t.Error("Program:", e)
	}
	if e := a.Program(-1, 0, 0, nil, nil); e != api.Nil {
		t.Error("Program:", e)
	}
	if e := a.Erase(9, 9); e != api.Nil {
		t.Error("Erase:", e)
	}
	a.Boot()
	a.Kill(0)
	if a.Geo() != (api.Geo{}) || a.Chips() != 0 || a.Ops() != 0 || a.Off() || !a.Dead(0) || a.Erases(0) != nil || a.Copy(nand.Event{Op: 1, Kind: 2}) != nil || len(a.Dump()) != 0 {
		t.Error(a.Geo(), a.Chips(), a.Ops(), a.Off(), a.Dead(0), a.Erases(0), a.Dump())
	}
	nand.Same(a, a)
	if b := chips(t); nand.Same(a, b) || nand.Same(b, a) {
		t.Error("none is the same as one")
	}
}

// P1 (rules 4, 6): an array that New didn't make makes nothing end badly.
func TestZeroArray(t *testing.T) {
	a := &nand.Array{}
	data, oob := page(1)
	a.Read(0, 0, 0)
	a.Program(0, 0, 0, data, oob)
	a.Erase(0, 0)
	a.Boot()
	a.Kill(0)
	a.Copy().Erase(0, 0)
	nand.Load(a.Dump())
	nand.Same(a, a.Copy())
}

// P1 (rule 4): what is handed in isn't changed, its spare room neither, and not kept.
func TestHandedIn(t *testing.T) {
	room := bytes.Repeat([]byte{9}, 20)
	events := []nand.Event{{Op: 1, Kind: nand.Fail, Left: room[:3:20]}, {Op: 2, Kind: nand.Fail, Left: room[:3:20]}, {Op: 7, Kind: nand.Fail}}
	bad := [][2]int{{1, 1}, {2, 2}}
	a, e := nand.New(small, bad[:1], events[:2]...)
	if e != api.OK {
		t.Fatal(e)
	}
	c := a.Copy(events[:2]...)
	room[0], room[3] = 1, 1
	bad[0] = [2]int{0, 0}
	events[0], events[1] = nand.Event{}, nand.Event{}
	for _, a := range []*nand.Array{a, c} {
		if e := put(a, 0, 0, 0, 1); e != api.Fail {
			t.Error("the list of what comes was kept:", e)
		}
		if e := a.Erase(0, 1); e != api.Fail {
			t.Error("the list of what comes was kept:", e)
		}
		nines := bytes.Repeat([]byte{9}, small.Size)
		has(t, a, 0, 0, 0, nines, nines[:64])
		has(t, a, 0, 1, 3, nines, nines[:64])
		if e := put(a, 1, 1, 0, 1); e != api.Fail {
			t.Error("the list of bad blocks was kept:", e)
		}
	}
	if !bytes.Equal(room[1:3], []byte{9, 9}) || !bytes.Equal(room[4:], bytes.Repeat([]byte{9}, 16)) || events[2].Op != 7 || bad[1] != [2]int{2, 2} {
		t.Error("what is handed in was changed")
	}
	data, oob := page(5)
	whole := slices.Concat(data, oob)
	if e := a.Program(0, 3, 0, whole[:256:320], whole[256:]); e != api.OK || !bytes.Equal(whole, slices.Concat(data, oob)) {
		t.Error("Program changed what is handed in:", e)
	}
	clear(whole)
	has(t, a, 0, 3, 0, data, oob)
	image := a.Dump()
	l, _ := nand.Load(image)
	clear(image)
	has(t, l, 0, 3, 0, data, oob)
}

// P1 (rule 4): answers are new memory, and no two share any.
func TestAnswersAreNew(t *testing.T) {
	a := chips(t)
	wantData, wantOob := page(5)
	put(a, 0, 0, 0, 5)
	for _, p := range []int{0, 1} {
		data, oob, _ := a.Read(0, 0, p)
		beside := slices.Clone(oob)
		clear(data[:cap(data)])
		if !bytes.Equal(oob, beside) {
			t.Error("a page and what stands beside it share memory")
		}
		clear(oob)
	}
	has(t, a, 0, 0, 0, wantData, wantOob)
	blank(t, a, 0, 0, 1)
	a.Erases(0)[0] = 7
	if n := a.Erases(0)[0]; n != 0 {
		t.Error("Erases hands out its own:", n)
	}
	clear(a.Dump())
	has(t, a, 0, 0, 0, wantData, wantOob)
}

package nand_test

import (
	"bytes"
	"encoding/binary"
	"hash/crc32"
	"testing"

	"gabion/api"
	"gabion/nand"
)

// small is the least array that may be.
var small = api.Geo{Chips: api.MinChips, Blocks: api.MinBlocks, Pages: api.MinPages, Size: api.MinSize}

// place is where a page, or with page 0 a block, stands.
type place struct{ chip, block, page int }

// model is an array as the document tells it: what isn't in a map is as at first.
type model struct {
	geo    api.Geo
	dead   map[int]bool
	bad    map[place]bool
	next   map[place]int
	erases map[place]int
	rows   map[place][]byte
	events []nand.Event
	ops    int
	off    bool
}

func newModel(g api.Geo, events []nand.Event) *model {
	return &model{geo: g, dead: map[int]bool{}, bad: map[place]bool{}, next: map[place]int{}, erases: map[place]int{}, rows: map[place][]byte{}, events: events}
}

// comes: what comes at the operation that was counted last.
func (m *model) comes() nand.Event {
	for _, x := range m.events {
		if x.Op == m.ops && (x.Kind == nand.Fail || x.Kind == nand.Crash || x.Kind == nand.Die) {
			return x
		}
	}
	return nand.Event{}
}

// left: a row of these bytes again and again.
func (m *model) left(l []byte) []byte {
	row := make([]byte, m.geo.Size+api.Oob)
	for i := range row {
		if len(l) > 0 {
			row[i] = l[i%len(l)]
		}
	}
	return row
}

// begin: what comes, and the error with which an operation ends already.
func (m *model) begin(chip, b int) (nand.Event, api.Errno) {
	if m.off {
		return nand.Event{}, api.Crash
	}
	if chip < 0 || chip > m.geo.Chips || b < 0 || b >= m.geo.Blocks {
		return nand.Event{}, api.Range
	}
	m.ops++
	x := m.comes()
	m.off = x.Kind == nand.Crash
	if x.Kind == nand.Die && x.Chip >= 0 && x.Chip <= m.geo.Chips {
		m.dead[x.Chip] = true
	}
	if m.dead[chip] && m.off {
		return x, api.Crash
	}
	if m.dead[chip] {
		return x, api.Dead
	}
	return x, api.OK
}

func (m *model) read(chip, b, p int) (data, oob []byte, e api.Errno) {
	x, e := m.begin(chip, b)
	if e != api.OK {
		return nil, nil, e
	}
	if x.Kind == nand.Crash {
		return nil, nil, api.Crash
	}
	if p < 0 || p >= m.geo.Pages {
		return nil, nil, api.Range
	}
	row, is := m.rows[place{chip, b, p}]
	if !is {
		row = m.left([]byte{255})
	}
	return row[:m.geo.Size], row[m.geo.Size:], api.OK
}

func (m *model) program(chip, b, p int, data, oob []byte) api.Errno {
	x, e := m.begin(chip, b)
	if e != api.OK {
		return e
	}
	k := place{chip, b, 0}
	right := p >= 0 && p < m.geo.Pages && len(data) == m.geo.Size && len(oob) == 64
	next := right && p == m.next[k]
	put := func(row []byte) {
		m.rows[place{chip, b, p}] = row
		m.next[k] = p + 1
	}
	if x.Kind == nand.Crash {
		if next && !m.bad[k] {
			put(m.left(x.Left))
		}
		return api.Crash
	}
	if !right {
		return api.Range
	}
	if m.bad[k] {
		return api.Fail
	}
	if !next {
		return api.Order
	}
	if x.Kind == nand.Fail {
		put(m.left(x.Left))
		m.bad[k] = true
		return api.Fail
	}
	put(append(append([]byte{}, data...), oob...))
	return api.OK
}

func (m *model) erase(chip, b int) api.Errno {
	x, e := m.begin(chip, b)
	if e != api.OK {
		return e
	}
	k := place{chip, b, 0}
	if m.bad[k] {
		if x.Kind == nand.Crash {
			return api.Crash
		}
		return api.Fail
	}
	for p := range m.geo.Pages {
		delete(m.rows, place{chip, b, p})
		if x.Kind == nand.Crash || x.Kind == nand.Fail {
			m.rows[place{chip, b, p}] = m.left(x.Left)
		}
	}
	m.next[k] = m.geo.Pages
	switch x.Kind {
	case nand.Crash:
		return api.Crash
	case nand.Fail:
		m.bad[k] = true
		return api.Fail
	}
	m.next[k] = 0
	m.erases[k]++
	return api.OK
}

// image: a model's bytes.
func (m *model) image() []byte {
	flag := map[bool]byte{true: 1}
	b := []byte{0x47, 0x41, 0x42, 0x4E}
	for _, n := range []int{m.geo.Chips, m.geo.Blocks, m.geo.Pages, m.geo.Size} {
		b = binary.LittleEndian.AppendUint16(b, uint16(n))
	}
	for c := range m.geo.Chips + 1 {
		b = append(b, flag[m.dead[c]])
		for k := range m.geo.Blocks {
			at := place{c, k, 0}
			b = append(b, flag[m.bad[at]], byte(m.next[at]))
			b = binary.LittleEndian.AppendUint32(b, uint32(m.erases[at]))
			for p := range m.geo.Pages {
				row, is := m.rows[place{c, k, p}]
				b = append(append(b, flag[is]), row...)
			}
		}
	}
	return summed(b)
}

// summed: bytes, and their sum behind them.
func summed(b []byte) []byte {
	return binary.LittleEndian.AppendUint32(b[:len(b):len(b)], crc32.Checksum(b, crc32.MakeTable(crc32.Castagnoli)))
}

// chance is numbers that look as if by chance, the same in each run.
type chance uint64

func (c *chance) below(n int) int {
	*c = *c*6364136223846793005 + 1442695040888963407
	return int(uint64(*c)>>33) % n
}

func (c *chance) bytes(n int) []byte {
	b := make([]byte, n)
	for i := range b {
		b[i] = byte(c.below(256))
	}
	return b
}

// walk does many operations on an array and on its model, chosen by chance.
func walk(t *testing.T, c *chance, a *nand.Array, m *model, steps int) {
	t.Helper()
	for range steps {
		chip, b, p := c.below(m.geo.Chips+3)-1, c.below(4), c.below(m.geo.Pages+2)-1
		if c.below(12) == 0 {
			b = []int{-1, m.geo.Blocks, m.geo.Blocks - 1, 1 << 40}[c.below(4)]
		}
		if k := (place{chip, b, 0}); c.below(3) > 0 && m.next[k] < m.geo.Pages {
			p = m.next[k]
		}
		before := m.ops
		var got, want api.Errno
		switch c.below(8) {
		case 0, 1:
			var data, oob, wantData, wantOob []byte
			data, oob, got = a.Read(chip, b, p)
			wantData, wantOob, want = m.read(chip, b, p)
			if !bytes.Equal(data, wantData) || !bytes.Equal(oob, wantOob) {
				t.Fatalf("Read(%d, %d, %d) at operation %d: %v %v, want %v %v", chip, b, p, before+1, data, oob, wantData, wantOob)
			}
		case 2:
			got, want = a.Erase(chip, b), m.erase(chip, b)
		case 3:
			a.Boot()
			m.off = false
		default:
			data, oob := c.bytes(m.geo.Size), c.bytes(64)
			switch c.below(20) {
			case 0:
				data = data[1:]
			case 1:
				oob = append(oob, 0)
			}
			got, want = a.Program(chip, b, p, data, oob), m.program(chip, b, p, data, oob)
		}
		if got != want || a.Ops() != m.ops || a.Off() != m.off {
			t.Fatalf("(%d, %d, %d) at operation %d: %d, %d operations, off %v; want %d, %d, %v", chip, b, p, before+1, got, a.Ops(), a.Off(), want, m.ops, m.off)
		}
	}
	for c := -1; c <= m.geo.Chips+1; c++ {
		if want := c < 0 || c > m.geo.Chips || m.dead[c]; a.Dead(c) != want {
			t.Fatal("dead:", c, a.Dead(c))
		}
	}
	if !bytes.Equal(a.Dump(), m.image()) {
		t.Fatal("another image than the model's")
	}
}

// P4.1, P4.2: all calls answer as a model that is written out of the document, whatever comes.
func TestAsTheModel(t *testing.T) {
	for seed := range 60 {
		c := chance(seed)
		g := small
		if seed%3 == 0 {
			g = api.Geo{Chips: 4, Blocks: 17, Pages: 5, Size: 320}
		}
		var events []nand.Event
		for range c.below(40) {
			x := nand.Event{Op: c.below(300) - 5, Kind: c.below(6) - 1, Chip: c.below(9) - 2, Left: c.bytes(c.below(500))}
			if x.Kind == nand.Die && c.below(2) == 0 {
				x.Chip = -1 // lest all chips die too soon
			}
			events = append(events, x)
		}
		m := newModel(g, events)
		bad := [][2]int{}
		for range c.below(4) {
			at := place{c.below(g.Chips + 1), c.below(5), 0}
			m.bad[at] = true
			bad = append(bad, [2]int{at.chip, at.block})
		}
		a, e := nand.New(g, bad, events...)
		if e != api.OK {
			t.Fatal(e)
		}
		walk(t, &c, a, m, 400)
	}
}

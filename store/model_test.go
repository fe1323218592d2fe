package store_test

import (
	"maps"
	"slices"
	"testing"

	"gabion/api"
	"gabion/geom"
	"gabion/store"
	"gabion/wear"
)

// model is the chapter's words, by themselves: where all blocks are, without any pages.
type model struct {
	g      api.Geo
	blocks int
	at     map[uint32]geom.Place // blocks at places
	staged []uint32
	put    int
	segs   []wear.Seg
	open   int
	row    int
	epoch  uint32
	stats  store.Stats

	// What a Mount finds.
	named  map[uint32]geom.Place // the last point's map
	erases []uint32
	log    []move // the blocks that were written behind it, one behind the other
}

// move is a block that was written: at a place, or staged.
type move struct {
	block  uint32
	staged bool
	place  geom.Place
}

func newModel(g api.Geo) *model {
	m := &model{g: g, blocks: geom.Capacity(g), at: map[uint32]geom.Place{}, segs: make([]wear.Seg, g.Virtual()-6), open: -1}
	m.point(nil)
	return m
}

// lay: blocks are written as stripes; in log: as a batch's.
func (m *model) lay(l []uint32, log bool) {
	for i, b := range l {
		slot := i % (m.g.Chips - 1)
		if slot == 0 {
			m.advance()
		}
		p := geom.Place{Seg: 6 + m.open, Row: m.row - 1, Slot: slot}
		m.drop(b)
		m.at[b] = p
		m.segs[m.open].Live++
		if log {
			m.log = append(m.log, move{block: b, place: p})
		}
	}
}

// advance: there is a next row; it is taken.
func (m *model) advance() {
	if m.open < 0 || m.row == m.g.Pages {
		n := wear.Next(m.segs)
		if m.open >= 0 {
			m.segs[m.open].Kind = wear.Closed
		}
		m.open, m.row = n, 0
		m.segs[n].Kind = wear.Open
		m.segs[n].Erases++
	}
	m.row++
}

// drop: a block is nowhere.
func (m *model) drop(b uint32) {
	m.staged = slices.DeleteFunc(m.staged, func(x uint32) bool { return x == b })
	if p, ok := m.at[b]; ok {
		m.segs[p.Seg-6].Live--
		delete(m.at, b)
	}
}

// point: a new point, and what is written ahead of it.
func (m *model) point(more []uint32) {
	m.lay(slices.Concat(m.staged, more), false)
	m.staged, m.put, m.log = nil, 0, nil
	m.named = maps.Clone(m.at)
	m.erases = nil
	for _, x := range m.segs {
		m.erases = append(m.erases, x.Erases)
	}
	for n, x := range m.segs {
		if x.Kind == wear.Closed && x.Live == 0 {
			m.segs[n].Kind = wear.Free
		}
	}
	m.epoch++
	m.stats.Points++
}

// rows: how many can be written before a segment must be cleared.
func (m *model) rows() int {
	n := 0
	for _, x := range m.segs {
		if x.Kind == wear.Free {
			n += m.g.Pages
		}
	}
	if m.open >= 0 {
		n += m.g.Pages - m.row
	}
	return n
}

// up: so many blocks as stripes, the last one filled up.
func (m *model) up(n int) int { return (n + m.g.Chips - 2) / (m.g.Chips - 1) }

// room is made.
func (m *model) room(n int) api.Errno {
	for moves := 0; m.rows() < m.up(n+len(m.staged))+1+2*m.g.Pages+2; moves++ {
		if moves == 64 {
			return api.NoSpc
		}
		if slices.ContainsFunc(m.segs, func(x wear.Seg) bool { return x.Kind == wear.Closed && x.Live == 0 }) {
			m.point(nil)
			continue
		}
		m.clear(wear.Victim(m.segs))
	}
	return api.OK
}

// clear: a closed segment is cleared.
func (m *model) clear(n int) {
	var l []uint32
	for b := range uint32(m.blocks) {
		if p, ok := m.at[b]; ok && p.Seg == 6+n {
			l = append(l, b)
		}
	}
	m.point(l)
	m.stats.Cleared++
	m.stats.Moved += len(l)
}

// batch is written.
func (m *model) batch(l []uint32, drops ...uint32) api.Errno {
	if e := m.room(len(l)); e != api.OK {
		return e
	}
	if len(l) > 0 {
		m.write(l)
		m.stats.Batches++
	}
	for _, b := range drops {
		m.drop(b)
	}
	return api.OK
}

func (m *model) write(l []uint32) {
	w, room := m.g.Chips-1, m.g.Pages*(m.g.Chips/2)
	var old []uint32
	for _, b := range m.staged {
		if !slices.Contains(l, b) {
			old = append(old, b)
		}
	}
	all := slices.Concat(old, l)
	stripes, wait := all[:len(all)/w*w], all[len(all)/w*w:]
	if len(all) < w {
		stripes, wait = nil, l
	}
	if m.put+len(wait) > room {
		stripes, wait = all, nil
	}
	m.lay(stripes, true)
	for _, b := range wait {
		m.drop(b)
		m.staged = append(m.staged, b)
		m.put++
		m.log = append(m.log, move{block: b, staged: true})
	}
}

// mount: the last point, and all batches behind it; what was given up behind it is there again.
func (m *model) mount() {
	log := m.log
	m.at, m.staged, m.open, m.row = map[uint32]geom.Place{}, nil, -1, 0
	m.segs = make([]wear.Seg, len(m.segs))
	for n := range m.segs {
		m.segs[n].Erases = m.erases[n]
	}
	put := func(b uint32, p geom.Place) {
		m.drop(b)
		m.at[b] = p
		m.segs[p.Seg-6].Live++
		m.segs[p.Seg-6].Kind = wear.Closed
	}
	for b, p := range m.named {
		put(b, p)
	}
	for _, x := range log {
		if x.staged {
			m.drop(x.block)
			m.staged = append(m.staged, x.block)
			continue
		}
		put(x.block, x.place)
	}
	m.stats = store.Stats{}
	m.point(nil)
}

// same: is a store what the words say?
func (m *model) same(t *testing.T, what string, s *store.Store) {
	t.Helper()
	for b := range uint32(m.blocks) {
		p, ok := s.Where(b)
		if want, is := m.at[b]; ok != is || p != want {
			t.Fatal(what, "block", b, "is at", p, ok, "want", want, is)
		}
	}
	if x := s.Staged(); !slices.Equal(x, m.staged) {
		t.Fatal(what, "staged:", x, "want", m.staged)
	}
	if x := s.Segs(); !slices.Equal(x, m.segs) {
		t.Fatal(what, "segments:", x, "want", m.segs)
	}
	if used, rows := s.Space(); used != len(m.at)+len(m.staged) || rows != m.rows() {
		t.Fatal(what, "space:", used, rows, "want", len(m.at)+len(m.staged), m.rows())
	}
	if x := s.Stats(); x != m.stats {
		t.Fatal(what, "stats:", x, "want", m.stats)
	}
	if s.Epoch() != m.epoch || s.Blocks() != m.blocks || s.Most() != m.g.Pages*(m.g.Chips/2) {
		t.Fatal(what, s.Epoch(), s.Blocks(), s.Most(), "want", m.epoch)
	}
}

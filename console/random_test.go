package console_test

import (
	"fmt"
	"slices"
	"strings"
	"testing"

	"gabion/api"
	"gabion/console"
)

// path: of some names, the more of them are there the likelier; now and then one that may not be, or goes about.
func (d *dice) path(m *model) string {
	p := pick(d, m.walk("/")...)
	name := pick(d, "a", "b", "c", "d", "ä", "a.b", "5", "-1")
	switch d.next(14) {
	case 0, 1, 2:
		return p
	case 3:
		return p + "/../" + name
	case 4:
		return pick(d, "a", "/", "//a/./b", "/a/\x01", "/"+strings.Repeat("x", 25), strings.Repeat("/a", 13), strings.Repeat("/.", 101), "/\xff", "/ä/..", "/b/c/d/e", "12")
	case 5, 6, 7, 8, 9:
		return strings.TrimSuffix(p, "/") + "/" + name
	}
	if i := strings.LastIndex(p, "/"); i > 0 && d.next(2) == 0 {
		return p[:i] + "/" + name
	}
	return "/" + name
}

// fd: a descriptor: mostly one that is open.
func (d *dice) fd(m *model) int64 {
	if d.next(20) == 0 {
		return pick(d, -1, 16, 17, 1<<32, -1<<40, int64(d.next(16)))
	}
	fd := d.next(16)
	for range 16 {
		if m.open[fd].n != 0 {
			break
		}
		fd = (fd + 1) % 16
	}
	return int64(fd)
}

// spot: where in a file something is done, or how many bytes it may be.
func (d *dice) spot(m *model, far int) int64 {
	switch d.next(30) {
	case 0, 1:
		return int64(d.next(3)) - 1
	case 2, 3:
		return int64(d.next(far))
	case 4:
		return pick(d, m.most, m.most+1, 1<<31, 1<<31+1, 1<<40, -1<<40, 1024, 1025)
	}
	return int64(d.next(2000))
}

// words: the orders about names and bytes, the more often the likelier.
func words() []string {
	return strings.Fields("create create create mkdir mkdir link unlink rmdir rename rename stat stat list walk glob open open open open close close read read write write fill fill fill truncate seek seek next next append append append fsync sync scrub mend check")
}

// order: any one that may come to a model.
func (d *dice) order(m *model, far int) console.Order {
	o := console.Order{Word: pick(d, words()...)}
	for range texts(o.Word) {
		o.Texts = append(o.Texts, d.path(m))
	}
	if o.Word == "glob" {
		o.Texts[1] = pick(d, "*", "?", "a*", "[b-d]", "*.*", "[", "[^a]", "\\a")
	}
	if o.Word == "open" {
		for range 20 {
			if i, e := m.stat(o.Texts[0]); e != api.OK || i.Kind != 1 {
				o.Texts[0] = d.path(m)
			}
		}
	}
	o.Nums = d.nums(m, o.Word, far)
	return o
}

// texts: how many an order has.
func texts(word string) int {
	for _, f := range forms() {
		if slices.Contains(strings.Fields(f.words), word) {
			return f.texts
		}
	}
	return 0
}

// nums: an order's numbers.
func (d *dice) nums(m *model, word string, far int) []int64 {
	fd := d.fd(m)
	switch word {
	case "close", "fsync":
		return []int64{fd}
	case "read":
		return []int64{fd, d.spot(m, far), d.spot(m, far) / 2}
	case "next":
		return []int64{fd, d.spot(m, far) / 2}
	case "truncate":
		return []int64{fd, d.spot(m, far)}
	case "seek":
		from := pick(d, 0, 0, 1, 1, 2, 2, 3, -1, int64(1<<32))
		return []int64{fd, max(-1<<40, d.spot(m, far)-pick(d, 0, int64(1000))), from}
	case "append":
		return append([]int64{fd}, d.low(39)...)
	case "write":
		return append([]int64{fd, d.spot(m, far)}, d.low(38)...)
	case "fill":
		if d.next(20) == 0 {
			return []int64{fd, d.spot(m, far)}
		}
		return append([]int64{fd, d.spot(m, far), pick(d, 0, 1, 255, 256, -1, int64(d.next(70)))}, d.low(pick(d, 4, 4, 37))...)
	}
	return nil
}

// low: numbers that are bytes, up to so many of them.
func (d *dice) low(most int) []int64 {
	var l []int64
	for range d.next(most + 1) {
		l = append(l, pick(d, int64(d.next(256)), int64(d.next(256)), int64(d.next(256)), 0, -1, 1<<40, 300))
	}
	return l
}

// changes: is it an order that takes room?
func changes(word string) bool {
	return slices.Contains(strings.Fields("create mkdir link unlink rmdir rename write fill truncate append"), word)
}

// P23.1, P2: whatever comes, in a long row: each order answers as a tree of names and bytes does, but for NoSpc where there is no room, which changes nothing; what was synced is there when it is mounted again.
func TestModel(t *testing.T) {
	for i, g := range []api.Geo{{Chips: 3, Blocks: 24, Pages: 8, Size: 256}, {Chips: 5, Blocks: 32, Pages: 12, Size: 320}, {Chips: 4, Blocks: 24, Pages: 8, Size: 1024}} {
		for seed := range 4 {
			t.Run(fmt.Sprint(g.Chips, " ", g.Size, " ", seed), func(t *testing.T) {
				t.Parallel()
				m, p, d := modelOf(t, g), &console.Player{}, dice(seed*91+i)
				play(t, p, line("geo", int64(g.Chips), int64(g.Blocks), int64(g.Pages), int64(g.Size))+" = ok", "format = ok")
				for step := range 1200 {
					follow(t, step, p, m, d.order(m, []int{4000, 90 * g.Size}[seed%2]))
					if step%100 < 99 {
						continue
					}
					play(t, p, "sync = ok", pick(&d, "mount", "copy", "boot")+" = ok", "mount = ok")
					m.open = [16]place{}
					if is, want := look(p.Do), look(m.answer); is != want {
						t.Fatal(step, "it is\n", is, "want\n", want)
					}
				}
			})
		}
	}
}

// follow: one order, that a player does and a model.
func follow(t *testing.T, step int, p *console.Player, m *model, o console.Order) {
	t.Helper()
	var blocks, nodes int
	if _, err := fmt.Sscanf(p.Do(console.Order{Word: "space"}), "space %d %d", &blocks, &nodes); err != nil {
		t.Fatal(err)
	}
	got := p.Do(o)
	if got != "error 28" {
		if want := m.answer(o); got != want {
			t.Fatalf("%d %s: %q, want %q", step, o.Show(), got, want)
		}
		return
	}
	// A thousand bytes are at most five blocks; what names a block may be new, and what names that, too.
	if !changes(o.Word) || nodes > 0 && blocks > 8 {
		t.Fatal(step, o.Show(), "there is room:", blocks, nodes)
	}
	if is, want := p.Do(console.Order{Word: "check"}), m.answer(console.Order{Word: "check"}); is != want {
		t.Fatal(step, o.Show(), "has changed something:", is, want)
	}
}

// script: orders by chance, as a text with remarks and blanks, and what they answer, if nothing comes.
func script(d *dice, m *model, many int) (string, []string) {
	text, answers := "geo 4 64 16 256\r\n\n  format # all of it\n", []string{"ok", "ok"}
	for range many {
		o := d.order(m, 3000)
		text += pick(d, "", " ", "\t", "\n", "#\n") + strings.ReplaceAll(o.Show(), " ", pick(d, " ", "  ", "\t")) + pick(d, "\n", " \n", "#\n", " # and so on\n")
		answers = append(answers, m.answer(o))
	}
	return text, answers
}

// P23.1, P23.2, P2: what a script answers is what a player answers to its orders, one by one; the same each time; and what a tree of names and bytes does.
func TestRun(t *testing.T) {
	g := api.Geo{Chips: 4, Blocks: 64, Pages: 16, Size: 256}
	for seed := range 40 {
		d := dice(seed)
		text, want := script(&d, modelOf(t, g), pick(&d, 298, 298, d.next(298)))
		is := console.Run(text)
		for i := range max(len(is), len(want)) {
			if i >= len(is) || i >= len(want) || is[i] != want[i] {
				l, _, _ := console.Parse(text)
				t.Fatal(seed, l[i].Show(), is[i:], "want", want[i:])
			}
		}
		if !slices.Equal(console.Run(text), is) {
			t.Error(seed, "it is run otherwise")
		}
		l, _, e := console.Parse(text)
		p := &console.Player{}
		var one []string
		for _, o := range l {
			one = append(one, p.Do(o))
		}
		if e != api.OK || !slices.Equal(one, is) {
			t.Error(seed, "one by one:", e, one, is)
		}
	}
	// One that answers nothing, as it has nothing.
	for _, s := range []string{"", "\n", "# geo"} {
		if l := console.Run(s); len(l) != 0 {
			t.Errorf("%q: %q", s, l)
		}
	}
	if l := console.Run("sync\nops\nkill 1\ngeo 1 1 1 1\nfull"); !slices.Equal(l, []string{"error 61", "error 61", "error 61", "error 34", "error 61"}) {
		t.Errorf("%q", l)
	}
}

// anyOrder: of any word, with any numbers, of chips as well.
func (d *dice) anyOrder() console.Order {
	l := forms()
	f := l[d.next(len(l))]
	o := console.Order{Word: pick(d, strings.Fields(f.words)...)}
	for range f.texts {
		o.Texts = append(o.Texts, pick(d, "/", "/a", "/b", "/a/c", "/a/c/d", "*", "x", "[", "7"))
	}
	for range f.least + d.next(min(f.most-f.least, 6)+1) {
		o.Nums = append(o.Nums, pick(d, 0, 0, 0, 1, 1, 2, 3, 5, int64(d.next(300)), int64(d.next(300)), -1, 1<<40, -1<<40, 1<<32))
	}
	if o.Word == "geo" && d.next(3) > 0 {
		o.Nums = []int64{3, 24, 8, 256}
	}
	return o
}

// P23.2, P23.3, P6: any orders, of chips too, with all that may come: Run ends, answers a line for each, and the same again.
func TestAnyScript(t *testing.T) {
	for seed := range 400 {
		d := dice(seed)
		var text strings.Builder
		for range d.next(3) {
			text.WriteString(pick(&d, "crash ", "fail ", "die ") + fmt.Sprint(d.next(500), " ", d.next(4), "\n"))
		}
		text.WriteString(pick(&d, "geo 3 24 8 256\nformat\n", "geo 3 19 9 320\nformat\n", ""))
		for range d.next(290) {
			text.WriteString(d.anyOrder().Show() + "\n")
		}
		l, line, e := console.Parse(text.String())
		is := console.Run(text.String())
		if line != 0 || e != api.OK || len(is) != len(l) {
			t.Fatal(seed, line, e, len(is), len(l))
		}
		p := &console.Player{}
		for i, o := range l {
			if s := p.Do(o); s != is[i] || s == "" || strings.ContainsAny(s, "\n") {
				t.Fatal(seed, o.Show(), s, is[i])
			}
		}
	}
}

// P23.3, P6: any text: Run ends, and what can't be parsed is told in one line.
func TestAnyText(t *testing.T) {
	parts := []string{"geo 3 24 8 256\n", "format\n", "mount\n", "mkdir /a\n", "open /a\n", "crash 9\n", "tick 200\n", " ", "\n", "#", "\xff", "\x00", "ä", "-", "0", "99999999999999999999", "sync", "list /", "\t", "\u2028", "fill 0 0 ", "1 2 3 ", "x"}
	for seed := range 3000 {
		d := dice(seed)
		var s strings.Builder
		for range d.next(40) {
			if d.next(8) == 0 {
				s.WriteByte(byte(d.next(256)))
			} else {
				s.WriteString(pick(&d, parts...))
			}
		}
		l, line, e := console.Parse(s.String())
		is := console.Run(s.String())
		switch {
		case e == api.OK && (line != 0 || len(is) != len(l)), e != api.OK && (l != nil || line < 1 || line > 1+strings.Count(s.String(), "\n") || !slices.Equal(is, []string{fmt.Sprintf("error %d line %d", int(e), line)})):
			t.Fatalf("%q: %v %d %d %q", s.String(), l, line, e, is)
		}
		if e != api.OK && e != api.NoEnt && e != api.Inval {
			t.Fatalf("%q: %d", s.String(), e)
		}
	}
	for _, c := range []string{"\x00", "\xff", "a", "0", "#", "\n", " ", "ä"} {
		console.Run(strings.Repeat(c, api.MaxText/len(c)))
		console.Run(strings.Repeat(c, api.MaxText+1))
	}
}

// FuzzRun: any text is run to its end, twice alike.
func FuzzRun(f *testing.F) {
	f.Add("geo 3 24 8 256\nformat\nmkdir /a\nlist /")
	f.Add("geo 3 24 8 256\ncrash 200 1\nformat\ncreate /a\nopen /a\nfill 0 0 255 1\nsync\nboot\nmount\nkill 1\ntick 200\ncheck\ndump")
	f.Fuzz(func(t *testing.T, text string) {
		if is := console.Run(text); !slices.Equal(is, console.Run(text)) {
			t.Error(is)
		}
	})
}

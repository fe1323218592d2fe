package console_test

import (
	"fmt"
	"hash/crc32"
	"os"
	"runtime/debug"
	"slices"
	"strings"
	"testing"

	"gabion/api"
	"gabion/console"
)

// Much is left behind below, and little of it at once: it needn't be collected often.
func TestMain(m *testing.M) {
	debug.SetGCPercent(400)
	os.Exit(m.Run())
}

// first is the shape of the chapter's example, as an order.
const first = "geo 3 24 8 256"

// forms: the chapter's orders: their words, so many texts, so many numbers at least and at most.
func forms() []form {
	return []form{
		{"format mount boot sync check ops full copy space scrub mend dump", 0, 0, 0},
		{"create mkdir unlink rmdir open stat list walk", 1, 0, 0},
		{"link rename glob", 2, 0, 0},
		{"geo", 0, 4, 4},
		{"bad die", 0, 2, 2},
		{"fail crash", 0, 1, 9},
		{"close fsync tick kill", 0, 1, 1},
		{"read seek", 0, 3, 3},
		{"truncate next", 0, 2, 2},
		{"append", 0, 1, 40},
		{"write fill", 0, 2, 40},
	}
}

type form struct {
	words              string
	texts, least, most int
}

// eachForm calls by with each word, and its form.
func eachForm(by func(word string, f form)) {
	for _, f := range forms() {
		for _, w := range strings.Fields(f.words) {
			by(w, f)
		}
	}
}

// one: an order with so many texts and numbers.
func one(word string, texts, nums int) console.Order {
	o := console.Order{Word: word}
	for i := range texts {
		o.Texts = append(o.Texts, fmt.Sprint("/t", i))
	}
	for i := range nums {
		o.Nums = append(o.Nums, int64(i*37-50))
	}
	return o
}

// equal: are they the same order?
func equal(a, b console.Order) bool {
	return a.Word == b.Word && slices.Equal(a.Texts, b.Texts) && slices.Equal(a.Nums, b.Nums)
}

// order: the one of a line.
func order(t *testing.T, line string) console.Order {
	t.Helper()
	l, n, e := console.Parse(line)
	if len(l) != 1 || n != 0 || e != api.OK {
		t.Fatalf("%q isn't an order: %v %d %d", line, l, n, e)
	}
	return l[0]
}

// play: what each line has ahead of its = is an order, and what it has behind that the answer.
func play(t *testing.T, p *console.Player, lines ...string) {
	t.Helper()
	for _, s := range lines {
		o, want, ok := strings.Cut(s, " = ")
		if !ok {
			t.Fatal(s)
		}
		if is := p.Do(order(t, o)); is != want {
			t.Errorf("%s: %q, want %q", o, is, want)
		}
	}
}

// fresh: a player that has a new file system.
func fresh(t *testing.T, lines ...string) *console.Player {
	t.Helper()
	p := &console.Player{}
	play(t, p, first+" = ok", "format = ok")
	play(t, p, lines...)
	return p
}

// told: how bytes that were read are told.
func told(data []byte) string {
	return fmt.Sprint("bytes ", len(data), " ", crc32.Checksum(data, crc32.MakeTable(crc32.Castagnoli)))
}

// line: an order with many numbers.
func line(word string, nums ...int64) string {
	return console.Order{Word: word, Nums: nums}.Show()
}

// wrong: an error's answer.
func wrong(e api.Errno) string { return fmt.Sprint("error ", int(e)) }

// dice are numbers, the same in each run.
type dice uint32

func (d *dice) next(n int) int {
	*d = *d*1664525 + 1013904223
	return int(uint32(*d)>>8) % n
}

// pick: one of a list.
func pick[T any](d *dice, l ...T) T { return l[d.next(len(l))] }

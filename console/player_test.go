package console_test

import (
	"fmt"
	"math"
	"slices"
	"strings"
	"testing"

	"gabion/api"
	"gabion/console"
	"gabion/fs"
	"gabion/nand"
)

// P23.1: the chapter's example.
func TestExample(t *testing.T) {
	l := console.Run("geo 3 24 8 256\nformat\nmkdir /a\nlist /")
	if !slices.Equal(l, []string{"ok", "ok", "ok", "list 1 a"}) {
		t.Errorf("%q", l)
	}
}

// chipless, treeless: the words of orders that need no chips; those that need chips, but no file system.
const (
	chipless = " geo bad fail crash die format "
	treeless = " mount boot copy kill ops dump "
)

// in: is a word one of these?
func in(words, word string) bool { return strings.Contains(words, " "+word+" ") }

// P23.1: a new player has nothing: all orders but those that make chips answer State.
func TestNothingThere(t *testing.T) {
	eachForm(func(word string, f form) {
		o := one(word, f.texts, f.most)
		want := "error 61"
		switch {
		case word == "geo" || word == "format":
			// No shape is one that may not be.
			want = "error 34"
		case in(chipless, word):
			want = "ok"
		}
		p := &console.Player{}
		for range 2 {
			if is := p.Do(o); is != want {
				t.Errorf("%s: %q, want %q", o.Show(), is, want)
			}
			// What will come isn't there yet.
			play(t, p, "ops = error 61", "list / = error 61", "mount = error 61")
		}
	})
	p := &console.Player{}
	play(t, p, first+" = ok", "ops = error 61", "full = error 61", "boot = error 61", "kill 0 = error 61", "copy = error 61", "dump = error 61", "tick 1 = error 61", "format = ok", "full = full 1")
}

// P23.1: with chips alone what is about the file system answers State.
func TestChipsAlone(t *testing.T) {
	eachForm(func(word string, f form) {
		p := fresh(t, "mkdir /a = ok", "sync = ok", "copy = ok")
		o := one(word, f.texts, f.most)
		is := p.Do(o)
		if (is == "error 61") == (in(chipless, word) || in(treeless, word)) {
			t.Errorf("%s: %q", o.Show(), is)
		}
		play(t, p, "mount = ok")
	})
}

// P23.1: no player answers Nil, whatever it is told.
func TestNoPlayer(t *testing.T) {
	var p *console.Player
	eachForm(func(word string, f form) {
		if is := p.Do(one(word, f.texts, f.most)); is != "error 60" {
			t.Error(word, is)
		}
		if is := p.Do(one(word, 0, 99)); is != "error 60" {
			t.Error(word, is)
		}
	})
	for _, o := range []console.Order{{}, one("x", 1, 1)} {
		if is := p.Do(o); is != "error 60" {
			t.Error(o, is)
		}
	}
}

// P23.1, P1: what Parse wouldn't answer is told as Parse tells it, with whatever there is, and nothing is done.
func TestNoOrders(t *testing.T) {
	for _, p := range []*console.Player{{}, fresh(t, "copy = ok"), fresh(t, "create /t0 = ok", "open /t0 = fd 0")} {
		for _, w := range []string{"", "x", "Sync", "sync ", " sync", "sync\n", "mkdir /a", "#"} {
			for n := range 3 {
				if is := p.Do(one(w, n, n)); is != "error 2" {
					t.Errorf("%q: %q", w, is)
				}
			}
		}
		eachForm(func(word string, f form) {
			for texts := range f.texts + 2 {
				for nums := range f.most + 3 {
					if texts == f.texts && nums >= f.least && nums <= f.most {
						continue
					}
					if is := p.Do(one(word, texts, nums)); is != "error 22" {
						t.Errorf("%s with %d texts, %d numbers: %q", word, texts, nums, is)
					}
				}
			}
		})
	}
	p := fresh(t)
	p.Do(one("mkdir", 1, 1))
	p.Do(one("create", 2, 0))
	p.Do(one("crash", 0, 0))
	play(t, p, "list / = list 0", "check = check 0 1")
}

// P23.1: texts that no line has are what layer 21 makes of them.
func TestAnyTexts(t *testing.T) {
	for _, s := range []string{"", "/a b", "/#", "/a\nb", "a", "/" + strings.Repeat("n", 25), "/\x00", "/5 5"} {
		_, f, _ := direct(t, nil)
		want := "ok"
		if e := f.Mkdir(s); e != api.OK {
			want = wrong(e)
		}
		p := fresh(t)
		if is := p.Do(console.Order{Word: "mkdir", Texts: []string{s}}); is != want {
			t.Errorf("%q: %q, want %q", s, is, want)
		}
		l, _ := f.List("/")
		play(t, p, strings.Join(append([]string{"list / = list", fmt.Sprint(len(l))}, l...), " "))
	}
}

// P23.1: numbers far beyond what a line may have are cut where an int stands; and are what layer 21 makes of them elsewhere.
func TestAnyNumbers(t *testing.T) {
	far := []int64{math.MaxInt64, math.MinInt64, 1 << 32, 1<<32 + 1, 1<<32 + 3, -1 << 32, 1 << 40, -1 << 40, 1 << 62, 1 << 31, -1 << 31}
	for _, n := range far {
		p := fresh(t, "create /f = ok", "open /f = fd 0", "open /f = fd 1")
		do := func(word, want string, nums ...int64) {
			t.Helper()
			if is := p.Do(console.Order{Word: word, Nums: nums}); is != want {
				t.Error(word, nums, is, "want", want)
			}
		}
		for _, w := range []string{"close", "fsync"} {
			do(w, "error 9", n)
		}
		do("next", "error 9", n, 0)
		do("append", "error 9", n, 1)
		do("truncate", "error 9", n, 1)
		do("read", "error 9", n, 0, 1)
		do("write", "error 9", n, 0, 1)
		do("fill", "error 9", n, 0, 1, 1)
		do("seek", "error 9", n, 0, 0)
		do("seek", "error 22", 0, 0, n)
		do("kill", "ok", n)
		do("full", "full 1")
		for at := range 4 {
			nums := []int64{3, 24, 8, 256}
			nums[at] = n
			do("geo", "error 34", nums...)
		}
		do("geo", "error 34", n+3, n+24, n+8, n+256)
		for _, w := range []string{"crash", "fail", "die"} {
			do(w, "ok", n, 1)
		}
		do("die", "ok", 1, n)
		do("format", "ok")
		do("full", "full 1")
		for _, bad := range [][]int64{{n, 0}, {0, n}, {n, n}} {
			do("bad", "ok", bad...)
			do("format", "error 34")
		}
	}
	p := fresh(t, "create /f = ok", "open /f = fd 0")
	for _, n := range far {
		want := "error 22"
		if n > 0 {
			want = "bytes 0 0"
		}
		if is := p.Do(console.Order{Word: "read", Nums: []int64{0, n, 10}}); is != want {
			t.Error("read at", n, is)
		}
		if is := p.Do(console.Order{Word: "read", Nums: []int64{0, 0, n}}); is != "error 22" {
			t.Error("read of", n, is)
		}
		if is := p.Do(console.Order{Word: "next", Nums: []int64{0, n}}); is != "error 22" {
			t.Error("next", n, is)
		}
		want = "error 22"
		if n == 1<<31 {
			want = "at 2147483648"
		}
		if is := p.Do(console.Order{Word: "seek", Nums: []int64{0, n, 0}}); is != want {
			t.Error("seek", n, is)
		}
		want = "error 22"
		if n > 0 {
			want = "error 27"
		}
		if is := p.Do(console.Order{Word: "truncate", Nums: []int64{0, n}}); is != want {
			t.Error("truncate", n, is)
		}
		if is := p.Do(console.Order{Word: "write", Nums: []int64{0, n, 1}}); is != want {
			t.Error("write at", n, is)
		}
	}
	play(t, p, "stat /f = stat 1 0 1")
}

// P23.1: geo answers the shape's Check, and keeps none that may not be.
func TestGeo(t *testing.T) {
	for _, s := range []string{"3 24 8 256", "16 24 8 256", "3 64 8 256", "3 24 32 256", "3 24 8 1024", "3 24 8 320", "3 16 4 256", "16 64 32 1024"} {
		play(t, &console.Player{}, "geo "+s+" = ok")
	}
	for _, s := range []string{"2 24 8 256", "17 24 8 256", "3 15 8 256", "3 65 8 256", "3 24 3 256", "3 24 33 256", "3 24 8 192", "3 24 8 255", "3 24 8 257", "3 24 8 1088", "0 0 0 0", "-3 24 8 256", "3 24 8 -256", "1099511627776 24 8 256", "4294967299 24 8 256"} {
		p := &console.Player{}
		play(t, p, "geo "+s+" = error 34", "format = error 34", "ops = error 61")
		play(t, p, first+" = ok", "geo "+s+" = error 34", "format = ok", "kill 3 = ok", "list / = list 0")
	}
	// The last one holds; chips that are there stay as they are.
	p := fresh(t, "mkdir /a = ok", "space = space 65 18")
	play(t, p, "geo 4 24 8 1024 = ok", "space = space 65 18", "list / = list 1 a", "sync = ok", "mount = ok", "list / = list 1 a", "format = ok")
	a, _ := nand.New(api.Geo{Chips: 4, Blocks: 24, Pages: 8, Size: 1024}, nil)
	f, _ := fs.Format(a)
	blocks, nodes, _ := f.Space()
	play(t, p, fmt.Sprint("space = space ", blocks, " ", nodes), fmt.Sprint("ops = ops ", a.Ops()), "list / = list 0")
	// One in which no store has room.
	play(t, p, "geo 3 16 4 256 = ok", "format = error 28", "list / = error 61", "mount = error 62", "kill 0 = ok", "geo 3 24 8 256 = ok", "format = ok", "full = full 1")
}

// direct: the chips that a player should have, with a new file system, and what Format answers.
func direct(t *testing.T, bad [][2]int, events ...nand.Event) (*nand.Array, *fs.FS, string) {
	t.Helper()
	a, e := nand.New(api.Geo{Chips: 3, Blocks: 24, Pages: 8, Size: 256}, bad, events...)
	if e != api.OK {
		t.Fatal(e)
	}
	f, e := fs.Format(a)
	if e != api.OK {
		return a, f, wrong(e)
	}
	return a, f, "ok"
}

// P23.1: bad blocks and what comes are of what the next format makes; not of what is there, nor of what is made later.
func TestWhatComes(t *testing.T) {
	none, _, _ := direct(t, nil)
	plain := fmt.Sprint("ops = ops ", none.Ops())
	for _, c := range []struct {
		lines  []string
		bad    [][2]int
		events []nand.Event
	}{
		{lines: []string{"bad 0 0"}, bad: [][2]int{{0, 0}}},
		{lines: []string{"bad 0 1", "bad 3 7", "bad 3 7"}, bad: [][2]int{{0, 1}, {3, 7}}},
		{lines: []string{"bad 1 0", "bad 1 1", "bad 1 2"}, bad: [][2]int{{1, 0}, {1, 1}, {1, 2}}},
		{lines: []string{"bad 1 0", "bad 1 1", "bad 1 2", "bad 1 3"}, bad: [][2]int{{1, 0}, {1, 1}, {1, 2}, {1, 3}}},
		{lines: []string{"fail 5"}, events: []nand.Event{{Op: 5, Kind: nand.Fail}}},
		{lines: []string{"fail 90 1 2"}, events: []nand.Event{{Op: 90, Kind: nand.Fail, Left: []byte{1, 2}}}},
		{lines: []string{"crash 5"}, events: []nand.Event{{Op: 5, Kind: nand.Crash}}},
		{lines: []string{"crash 90 1 2 3 4 5 6 7 8"}, events: []nand.Event{{Op: 90, Kind: nand.Crash, Left: []byte{1, 2, 3, 4, 5, 6, 7, 8}}}},
		{lines: []string{"die 5 1"}, events: []nand.Event{{Op: 5, Kind: nand.Die, Chip: 1}}},
		{lines: []string{"die 90 2", "die 91 0"}, events: []nand.Event{{Op: 90, Kind: nand.Die, Chip: 2}, {Op: 91, Kind: nand.Die}}},
		{lines: []string{"die 5 4", "fail 0 1", "crash -5"}, events: []nand.Event{{Op: 5, Kind: nand.Die, Chip: 4}}},
		{lines: []string{"fail 60", "crash 60"}, events: []nand.Event{{Op: 60, Kind: nand.Fail}}},
		{lines: []string{"crash 60", "fail 60"}, events: []nand.Event{{Op: 60, Kind: nand.Crash}}},
		{lines: []string{"fail 20", "bad 2 9", "crash 80", "die 30 3"}, bad: [][2]int{{2, 9}}, events: []nand.Event{{Op: 20, Kind: nand.Fail}, {Op: 80, Kind: nand.Crash}, {Op: 30, Kind: nand.Die, Chip: 3}}},
	} {
		a, f, want := direct(t, c.bad, c.events...)
		p := fresh(t, "mkdir /a = ok")
		for _, s := range c.lines {
			play(t, p, s+" = ok")
		}
		// Nothing comes to what is there.
		for i := range 10 {
			play(t, p, fmt.Sprint("create /", i, " = ok"), "sync = ok")
		}
		play(t, p, "format = "+want, fmt.Sprint("ops = ops ", a.Ops()), fmt.Sprint("dump = image ", len(a.Dump()), strings.TrimPrefix(told(a.Dump()), fmt.Sprint("bytes ", len(a.Dump()))), " 1"))
		if f != nil {
			full := map[bool]int{true: 1}[f.Full()]
			play(t, p, fmt.Sprint("full = full ", full))
		} else {
			play(t, p, "list / = error 61")
		}
		// Nor to what is made then.
		play(t, p, "format = ok", plain, "full = full 1")
	}
}

// P23.1: what comes behind format comes to what is there then, whatever is done.
func TestWhatComesLater(t *testing.T) {
	a, f, _ := direct(t, nil)
	f.Mkdir("/a")
	at := int64(a.Ops())
	f.Sync()
	if a.Ops() <= int(at)+2 {
		t.Fatal("no operations")
	}
	p := &console.Player{}
	play(t, p, first+" = ok", line("crash", at+2, 7)+" = ok", "format = ok", "mkdir /a = ok", "sync = error 72", fmt.Sprint("ops = ops ", at+2), "sync = error 72", "mount = error 72", "list / = error 61", fmt.Sprint("ops = ops ", at+2), "boot = ok", "list / = error 61", "mount = ok", "check = check 0 1")
	// Without mounting it again the file system stays as the crash left it.
	p = &console.Player{}
	play(t, p, first+" = ok", line("crash", at+2, 7)+" = ok", "format = ok", "mkdir /a = ok", "sync = error 72", "boot = ok", "sync = error 72", "mount = ok", "list / = list 0", "mkdir /b = ok", "sync = ok", "mount = ok", "list / = list 1 b")
	// What was told since the last format isn't of a copy, but of the next one.
	p = fresh(t, "mkdir /a = ok", "sync = ok", "crash 3 = ok", "die 4 0 = ok", "copy = ok", "mount = ok", "list / = list 1 a", "full = full 1", "format = error 72", "ops = ops 3")
	play(t, p, "boot = ok", "format = ok")
	// A copy has nothing of what comes; it is off as well.
	p = &console.Player{}
	play(t, p, first+" = ok", line("crash", at+2)+" = ok", "format = ok", "copy = ok", "list / = error 61", "ops = ops 0", "mount = ok", "mkdir /a = ok", "sync = ok", "list / = list 1 a")
	p = &console.Player{}
	play(t, p, first+" = ok", line("crash", at+2)+" = ok", "format = ok", "mkdir /a = ok", "sync = error 72", "copy = ok", "mount = error 72", "boot = ok", "mount = ok")
}

// P23.1: a bad block that isn't there, and more than MaxEvents that come, are told by format; what was there stays, and the next format has none of them.
func TestWhatMayNotCome(t *testing.T) {
	for _, s := range []string{"4 0", "-1 0", "0 24", "0 -1", "1099511627776 0", "0 -1099511627776"} {
		p := fresh(t, "mkdir /a = ok", "bad 0 3 = ok", "bad "+s+" = ok", "format = error 34", "list / = list 1 a", "sync = ok", "mount = ok", "list / = list 1 a", "format = ok")
		a, _, _ := direct(t, nil)
		play(t, p, fmt.Sprint("ops = ops ", a.Ops()), "list / = list 0")
	}
	for _, many := range []int{api.MaxEvents, api.MaxEvents + 1} {
		p := fresh(t)
		for i := range many {
			play(t, p, fmt.Sprintf("%s %d %d = ok", pick(new(dice(i)), "fail", "crash", "die"), 100000+i, i%3))
		}
		want := "ok"
		if many > api.MaxEvents {
			want = "error 34"
		}
		play(t, p, "format = "+want, "format = ok")
	}
}

// P23.1: the power goes while chips are made ready: they are there, without a file system, till the next format.
func TestFormatCutOff(t *testing.T) {
	a, _, _ := direct(t, nil)
	for op := 1; op <= a.Ops(); op++ {
		p := &console.Player{}
		play(t, p, first+" = ok", fmt.Sprint("crash ", op, " = ok"), "format = error 72", "list / = error 61", "mend = error 61", fmt.Sprint("ops = ops ", op), "mount = error 72", "boot = ok", "kill 1 = ok", "format = ok", "full = full 1", "check = check 0 1")
	}
}

// P23.1: kill is layer 4's, of each chip, and of one that isn't there.
func TestKill(t *testing.T) {
	for c := range 4 {
		p := fresh(t, "create /f = ok", "open /f = fd 0", "append 0 1 2 3 = ok", "sync = ok")
		play(t, p, fmt.Sprint("kill ", c, " = ok"), "mount = ok", "open /f = fd 0", "read 0 0 9 = "+told([]byte{1, 2, 3}))
		play(t, p, map[bool]string{true: "full = full 0", false: "full = full 1"}[c < 3])
		play(t, p, fmt.Sprint("kill ", (c+1)%4, " = ok"))
		if c < 2 {
			play(t, p, "mount = error 74", "full = error 61")
		}
	}
	p := fresh(t, "kill 4 = ok", "kill -1 = ok", "kill 99 = ok", "mount = ok", "full = full 1", "kill 3 = ok", "kill 3 = ok", "mount = ok", "full = full 1", "tick 1 = full 1")
	play(t, p, "kill 0 = ok", "mount = ok", "full = full 0", "tick 1 = error 61", "kill 1 = ok", "mount = error 74")
}

// P23.1: dump tells of layer 4's Dump, ops of its operations.
func TestDumpAndOps(t *testing.T) {
	a, f, _ := direct(t, nil)
	p := fresh(t)
	tells := func() {
		t.Helper()
		b := a.Dump()
		play(t, p, strings.Replace(told(b), "bytes", "dump = image", 1)+" 1", fmt.Sprint("ops = ops ", a.Ops()))
	}
	tells()
	f.Create("/f")
	play(t, p, "create /f = ok")
	fd, _ := f.Open("/f")
	play(t, p, "open /f = fd 0")
	f.Write(fd, 0, slices.Repeat([]byte{7}, 1000))
	f.Sync()
	play(t, p, "fill 0 0 250 7 = ok", "sync = ok")
	tells()
	a.Kill(1)
	play(t, p, "kill 1 = ok")
	tells()
	a = a.Copy()
	play(t, p, "copy = ok")
	tells()
	fs.Mount(a)
	play(t, p, "mount = ok")
	tells()
}

// P23.1: these in each order: chips that are there are mounted, and have all that was safe.
func TestMountBootCopy(t *testing.T) {
	words := []string{"mount", "boot", "copy", "dump", "ops", "format"}
	d := dice(3)
	for range 300 {
		p := fresh(t, "mkdir /a = ok", "sync = ok", "mkdir /b = ok")
		files, names := true, "list 2 a b"
		for range d.next(8) {
			switch w := pick(&d, words...); w {
			case "mount", "format":
				play(t, p, w+" = ok")
				files, names = true, map[string]string{"mount": "list 1 a", "format": "list 0"}[w]
				if w == "format" {
					play(t, p, "mkdir /a = ok", "sync = ok", "mkdir /b = ok")
					names = "list 2 a b"
				}
			case "boot", "copy":
				play(t, p, w+" = ok")
				files = files && w != "copy"
			default:
				p.Do(order(t, w))
			}
			if files {
				play(t, p, "list / = "+names)
			} else {
				play(t, p, "list / = error 61", "sync = error 61", "tick 1 = error 61", "full = error 61")
			}
		}
		play(t, p, "mount = ok", "list / = list 1 a")
	}
	// Mounting takes away what is open.
	play(t, fresh(t, "create /f = ok", "open /f = fd 0", "sync = ok"), "boot = ok", "open /f = fd 1", "mount = ok", "close 0 = error 9", "open /f = fd 0")
}

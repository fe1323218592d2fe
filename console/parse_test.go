package console_test

import (
	"fmt"
	"slices"
	"strings"
	"testing"

	"gabion/api"
	"gabion/console"
)

// parses: a text is these orders.
func parses(t *testing.T, text string, want ...console.Order) {
	t.Helper()
	l, line, e := console.Parse(text)
	if !slices.EqualFunc(l, want, equal) || line != 0 || e != api.OK {
		t.Errorf("%.60q: %v %d %d, want %v", text, l, line, e, want)
	}
}

// refused: a text is no script.
func refused(t *testing.T, text string, line int, want api.Errno) {
	t.Helper()
	l, n, e := console.Parse(text)
	if l != nil || n != line || e != want {
		t.Errorf("%.60q: %v %d %d, want line %d, error %d", text, l, n, e, line, want)
	}
	if l := console.Run(text); len(l) != 1 || l[0] != fmt.Sprintf("error %d line %d", int(want), line) {
		t.Errorf("%.60q is run: %q", text, l)
	}
}

// P23.1: each word has just as many texts and numbers as it may.
func TestForms(t *testing.T) {
	many := 0
	eachForm(func(word string, f form) {
		many++
		for texts := range f.texts {
			refused(t, one(word, texts, 0).Show(), 1, api.Inval)
		}
		for nums := range f.most + 3 {
			o := one(word, f.texts, nums)
			if nums < f.least || nums > f.most {
				refused(t, o.Show(), 1, api.Inval)
			} else {
				parses(t, o.Show(), o)
			}
			// One text more stands where a number should.
			if nums > 0 {
				refused(t, one(word, f.texts+1, nums-1).Show(), 1, api.Inval)
			}
		}
	})
	if many != 39 {
		t.Error(many, "words")
	}
}

// P23.1: other words are no orders, whatever is behind them.
func TestUnknownWords(t *testing.T) {
	for _, w := range []string{"x", "Geo", "GEO", "geos", "ge", "mkdirs", "help", "1", "-", "=", "/", "no", "sync;", "\"sync\"", "syncé", "\x00", "\xff", "sync\x00", "append1"} {
		refused(t, w, 1, api.NoEnt)
		refused(t, w+" 1 2 3 4", 1, api.NoEnt)
		refused(t, w+" + + +", 1, api.NoEnt)
	}
}

// P23.1: a number is decimal, without noughts or + ahead, from -2^40 to 2^40.
func TestNumbers(t *testing.T) {
	for s, want := range map[string]int64{"0": 0, "1": 1, "-1": -1, "9": 9, "10": 10, "-10": -10, "65536": 65536, "4294967296": 1 << 32, "1099511627775": 1<<40 - 1, "1099511627776": 1 << 40, "-1099511627775": 1 - 1<<40, "-1099511627776": -1 << 40} {
		parses(t, "close "+s, console.Order{Word: "close", Nums: []int64{want}})
		parses(t, "geo 1 "+s+" 3 "+s, console.Order{Word: "geo", Nums: []int64{1, want, 3, want}})
		o := one("append", 0, 40)
		at := strings.LastIndex(o.Show(), " ")
		o.Nums[39] = want
		parses(t, o.Show()[:at]+" "+s, o)
	}
	for _, s := range []string{"1099511627777", "-1099511627777", "2199023255552", "9223372036854775807", "9223372036854775808", "-9223372036854775808", "-9223372036854775809", "18446744073709551616", "99999999999999999999999999", "01", "00", "007", "-01", "-00", "+1", "+0", "+", "-0", "-", "--1", "-+1", "1-", "1.0", "1.", ".5", "1e3", "0x10", "0b1", "0o7", "x", "1_000", "_1", "1,000", "1,", "a", "1a", "a1", "/", "\x00", "1\x00", "\xff", "\u0663", "\uff11", "\u22121", "\u00b2", "∞", "NaN"} {
		refused(t, "close "+s, 1, api.Inval)
		refused(t, "geo 1 "+s+" 3 4", 1, api.Inval)
		refused(t, "append 1 2 3 "+s, 1, api.Inval)
		// Where a text should stand it is one.
		parses(t, "mkdir "+s, console.Order{Word: "mkdir", Texts: []string{s}})
		parses(t, "link "+s+" "+s, console.Order{Word: "link", Texts: []string{s, s}})
	}
	parses(t, "mkdir 5", console.Order{Word: "mkdir", Texts: []string{"5"}})
	parses(t, "glob 1 2", console.Order{Word: "glob", Texts: []string{"1", "2"}})
	refused(t, "mkdir /a 5", 1, api.Inval)
	refused(t, "glob 1 2 3", 1, api.Inval)
	refused(t, "close /a", 1, api.Inval)
	refused(t, "seek 0 5 end", 1, api.Inval)
}

// P23.1: words are parted by blanks of each kind, and by nothing else; lines by byte 10 alone.
func TestBlanks(t *testing.T) {
	want := console.Order{Word: "link", Texts: []string{"/a", "/b"}}
	for _, s := range []string{" ", "  ", "\t", "\v", "\f", "\r", " \t ", "\u0085", "\u00a0", "\u1680", "\u2000", "\u2009", "\u2028", "\u2029", "\u202f", "\u205f", "\u3000"} {
		parses(t, "link"+s+"/a"+s+"/b", want)
		parses(t, s+"link"+s+s+"/a"+s+"/b"+s, want)
		parses(t, s+"\n"+s+s)
		if _, _, e := console.Parse("sync" + s + "sync"); e != api.Inval {
			t.Errorf("%q parts lines", s)
		}
	}
	for _, s := range []string{"\u200b", "\ufeff", "\x00", "\x1f", "\x85", "\xa0", "_", ",", "\u180e"} {
		refused(t, "link /a"+s+"/b", 1, api.Inval)
		parses(t, "mkdir /a"+s+"/b", console.Order{Word: "mkdir", Texts: []string{"/a" + s + "/b"}})
	}
	parses(t, "sync\r\nmount\r\n", one("sync", 0, 0), one("mount", 0, 0))
	refused(t, "link /a\n/b", 1, api.Inval)
}

// P23.1: what is behind a # is nothing, wherever it stands; lines without a word are nothing, too.
func TestRemarks(t *testing.T) {
	sync, a := one("sync", 0, 0), console.Order{Word: "mkdir", Texts: []string{"/a"}}
	parses(t, "")
	parses(t, "\n\n\n")
	parses(t, "#")
	parses(t, "# sync")
	parses(t, " \t# x\n##\n#\n")
	parses(t, "sync", sync)
	parses(t, "sync\n", sync)
	parses(t, "\nsync\n\n", sync)
	parses(t, "sync#", sync)
	parses(t, "sync # no more of it # + 1", sync)
	parses(t, "mkdir /a#b", a)
	parses(t, "mkdir /a #b c\nsync", a, sync)
	parses(t, "#\nsync\n # \n\nsync\n#", sync, sync)
	refused(t, "mkdir #/a", 1, api.Inval)
	refused(t, "close 1#2 3\nclose #1", 2, api.Inval)
	refused(t, "sy#nc", 1, api.NoEnt)
}

// P23.1: the line that is told is the first that is wrong; those without a word count as lines.
func TestLines(t *testing.T) {
	refused(t, "sync\nx", 2, api.NoEnt)
	refused(t, "x\nx", 1, api.NoEnt)
	refused(t, "\n\n# sync\n\t\nsync\nmkdir\nx", 6, api.Inval)
	refused(t, "\n \nx\nmkdir", 3, api.NoEnt)
	refused(t, "sync\nsync\n\n#\nclose +1\n", 5, api.Inval)
	refused(t, strings.Repeat("\n", 60000)+"x", 60001, api.NoEnt)
	refused(t, "sync\rx\n", 1, api.Inval)
	refused(t, "x"+strings.Repeat("\nsync", 301), 1, api.NoEnt)
}

// P23.1: a text has at most MaxText bytes, whatever they are; more are told ahead of all else.
func TestLongTexts(t *testing.T) {
	for _, s := range []string{" ", "\n", "#", "\t"} {
		parses(t, strings.Repeat(s, api.MaxText))
		refused(t, strings.Repeat(s, api.MaxText+1), 0, api.FBig)
	}
	sync := one("sync", 0, 0)
	parses(t, "sync#"+strings.Repeat("é", (api.MaxText-5)/2), sync)
	refused(t, "sync#"+strings.Repeat("é", (api.MaxText-5)/2)+"..", 0, api.FBig)
	refused(t, strings.Repeat("x\n", api.MaxText/2), 1, api.NoEnt)
	refused(t, strings.Repeat("x\n", api.MaxText/2)+"x", 0, api.FBig)
	refused(t, strings.Repeat("sync\n", 20000), 0, api.FBig)
	name := strings.Repeat("n", api.MaxText-6)
	parses(t, "mkdir "+name, console.Order{Word: "mkdir", Texts: []string{name}})
	refused(t, strings.Repeat("1", api.MaxText), 1, api.NoEnt)
	refused(t, "append"+strings.Repeat(" 1", 30000), 1, api.Inval)
	refused(t, "close "+strings.Repeat("9", 60000), 1, api.Inval)
}

// P23.1: there are at most 300 orders; of a line behind them it is asked only whether it has a word.
func TestManyOrders(t *testing.T) {
	if console.Most != 300 {
		t.Fatal(console.Most)
	}
	full := strings.Repeat("sync\n", 300)
	want := slices.Repeat([]console.Order{one("sync", 0, 0)}, 300)
	parses(t, full, want...)
	parses(t, full[:len(full)-1], want...)
	parses(t, full+"\n# sync\n \t \n#x", want...)
	parses(t, strings.Repeat("#\nsync\n\n", 300), want...)
	refused(t, full+"sync", 301, api.FBig)
	refused(t, full+"\n\n#\nsync\n", 304, api.FBig)
	refused(t, full+"x", 301, api.FBig)
	refused(t, full+"\nmkdir", 302, api.FBig)
	refused(t, full+"close +1 # x", 301, api.FBig)
	refused(t, full+"sync\nx", 301, api.FBig)
	refused(t, strings.Repeat("sync\n", 299)+"x\nsync\nsync", 300, api.NoEnt)
	refused(t, "close\n"+full+"sync", 1, api.Inval)
	refused(t, strings.Repeat("\nsync", 301), 302, api.FBig)
}

// P23.1: an order's line has its word, its texts, its numbers, a blank between.
func TestShow(t *testing.T) {
	for want, o := range map[string]console.Order{
		"sync":                 {Word: "sync"},
		"mkdir /a":             {Word: "mkdir", Texts: []string{"/a"}, Nums: []int64{}},
		"link /a /b":           {Word: "link", Texts: []string{"/a", "/b"}},
		"geo 3 24 8 256":       {Word: "geo", Nums: []int64{3, 24, 8, 256}},
		"seek 0 -5 2":          {Word: "seek", Texts: []string{}, Nums: []int64{0, -5, 2}},
		"close -1099511627776": {Word: "close", Nums: []int64{-1 << 40}},
		"":                     {},
		"x y z 0 -9223372036854775808 9223372036854775807": {Word: "x", Texts: []string{"y", "z"}, Nums: []int64{0, -1 << 63, 1<<63 - 1}},
	} {
		if is := o.Show(); is != want {
			t.Errorf("%v: %q, want %q", o, is, want)
		}
	}
}

// P23.1, P1: what is handed in isn't changed, its spare room neither; what is answered is by itself.
func TestListsStay(t *testing.T) {
	o := console.Order{Word: "link", Texts: append(make([]string, 0, 9), "/a", "/b"), Nums: append(make([]int64, 0, 9), 1)}
	o.Show()
	(&console.Player{}).Do(o)
	if !slices.Equal(o.Texts[:9], []string{"/a", "/b", "", "", "", "", "", "", ""}) || !slices.Equal(o.Nums[:9], []int64{1, 0, 0, 0, 0, 0, 0, 0, 0}) {
		t.Error("changed:", o.Texts[:9], o.Nums[:9])
	}
	l, _, _ := console.Parse("link /a /b\nglob /c 1\nbad 1 2\ndie 3 4")
	for _, x := range l {
		if len(x.Texts) > 0 {
			x.Texts[0] = "?"
		} else {
			x.Nums[0] = 99
		}
		_, _ = append(x.Texts, "!"), append(x.Nums, 77)
	}
	if s := fmt.Sprint(l); s != "[{link [? /b] []} {glob [? 1] []} {bad [] [99 2]} {die [] [99 4]}]" {
		t.Error(s)
	}
	parses(t, "link /a /b", console.Order{Word: "link", Texts: []string{"/a", "/b"}})
}

// P23.2: what is shown is parsed as it was.
func TestShownIsParsed(t *testing.T) {
	d := dice(5)
	words := []string{"/a", "5", "-0", "+1", "é", "\xff", "\x85", "/\xc2", "\xa0x", "*.[a-c]", "\\", "\x00", strings.Repeat("n", 300)}
	nums := []int64{0, 1, -1, 255, 256, 1 << 31, -1 << 31, 1 << 40, -1 << 40, 77}
	for range 300 {
		var want []console.Order
		var text strings.Builder
		for range d.next(20) {
			fs := forms()
			f := fs[d.next(len(fs))]
			o := console.Order{Word: pick(&d, strings.Fields(f.words)...)}
			for range f.texts {
				o.Texts = append(o.Texts, pick(&d, words...))
			}
			for range f.least + d.next(f.most-f.least+1) {
				o.Nums = append(o.Nums, pick(&d, nums...))
			}
			want = append(want, o)
			text.WriteString(o.Show() + "\n")
			parses(t, o.Show(), o)
		}
		parses(t, text.String(), want...)
	}
}

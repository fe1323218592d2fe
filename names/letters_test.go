package names_test

import (
	"slices"
	"testing"
	"unicode/utf8"

	"gabion/names"
)

// P3.1: how many letters, and where each begins; a byte that is no letter's is one.
func TestLetters(t *testing.T) {
	for _, c := range []struct {
		s    string
		want []int
	}{
		{"", nil},
		{"a", []int{0}},
		{"abc", []int{0, 1, 2}},
		{"\x00\x7f", []int{0, 1}},
		{"é", []int{0}},
		{"aéb", []int{0, 1, 3}},
		{"世é\U00010348a", []int{0, 3, 5, 9}},
		{"\ufffda", []int{0, 3}},
		{"\xff", []int{0}},
		{"\xff\xfe\x80", []int{0, 1, 2}},
		{"a\x80é\xffb", []int{0, 1, 2, 4, 5}},
		{"世"[:2], []int{0, 1}},
		{"世"[:2] + "a", []int{0, 1, 2}},
		{"世"[1:], []int{0, 1}},
		{"\xc3\xc3\xa9", []int{0, 1}},
		{"\xc0\x80", []int{0, 1}},
		{"\xed\xa0\x80", []int{0, 1, 2}},
		{"\xf4\x90\x80\x80", []int{0, 1, 2, 3}},
		{"\U00010348"[:3], []int{0, 1, 2}},
		{"e\u0301", []int{0, 1}},
	} {
		n, l := names.Letters(c.s)
		if n != len(c.want) || !slices.Equal(l, c.want) {
			t.Errorf("%q: %d, %v", c.s, n, l)
		}
	}
}

// texts: all texts of up to so many of these bytes.
func texts(bytes string, most int) []string {
	l := []string{""}
	for from := 0; most > 0; most-- {
		to := len(l)
		for _, s := range l[from:to] {
			for i := range len(bytes) {
				l = append(l, s+bytes[i:i+1])
			}
		}
		from = to
	}
	return l
}

// P3.1: all short texts of bytes that may and may not be together, against the library's steps.
func TestLettersOfAllShortTexts(t *testing.T) {
	for _, s := range texts("a\xc3\xa9\xe4\xb8\x96\xf0\x90\xff", 4) {
		var want []int
		for i := 0; i < len(s); {
			want = append(want, i)
			_, wide := utf8.DecodeRuneInString(s[i:])
			i += wide
		}
		n, l := names.Letters(s)
		if n != len(want) || !slices.Equal(l, want) {
			t.Errorf("%q: %d, %v", s, n, l)
		}
	}
}

// P1 (rule 4): an answer is new memory.
func TestLettersAreNewMemory(t *testing.T) {
	_, first := names.Letters("abc")
	_, second := names.Letters("abc")
	first[0] = 9
	_ = append(first[:1], 9, 9)
	if !slices.Equal(second, []int{0, 1, 2}) {
		t.Error(second)
	}
}

// P3.1: the first stands ahead of the second, and the second not ahead of the first.
func TestLess(t *testing.T) {
	for _, c := range [][2]string{
		{"", "a"},
		{"", "\x00"},
		{"", "\xff"},
		{"a", "b"},
		{"a", "ab"},
		{"ab", "b"},
		{"ab", "ac"},
		{"abc", "b"},
		{"B", "a"},
		{"10", "9"},
		{"a b", "a!"},
		{"z", "é"},
		{"zz", "é"},
		{"é", "世"},
		{"aé", "aéa"},
		{"\uffff", "\U00010000"}, // as letters, not as halves of 16 bits
		{"\ufffc", "\xff"},
		{"\xff", "\ufffe"},     // FFFD, whatever the byte
		{"\xff", "\U00010000"}, // the bytes say otherwise
		{"\xff", "\U00010000\x00"},
		{"z", "\x80"},
		{"世", "\x80"},
		{"\U00010000"[:3], "\U00010000"},
		{"\ufffd", "\xff"}, // alike in letters: their bytes
		{"\x80", "\xff"},
		{"\x80", "\ufffd"},
		{"a\x80", "a\x81"},
		{"\x80\xff", "\xff\x80"},
		{"\xffa", "\x80b"}, // a later letter is ahead of the bytes
		{"\xffa", "\ufffdb"},
		{"\xff", "\x80\x80"}, // fewer letters are ahead of the bytes
		{"\xff", "\xff\x80"},
		{"\ufffd", "\x80\x80"},
		{"\xff", "\ufffda"},
		{"\xff\xff", "\ufffd\ufffd\ufffd"},
	} {
		if !names.Less(c[0], c[1]) {
			t.Errorf("%q isn't ahead of %q", c[0], c[1])
		}
		if names.Less(c[1], c[0]) {
			t.Errorf("%q is ahead of %q", c[1], c[0])
		}
	}
}

// P3.1: nothing stands ahead of itself.
func TestLessOfTheSame(t *testing.T) {
	for _, s := range []string{"", "a", "ab", "é", "\ufffd", "\xff", "a\x80b", times("a", 500)} {
		if names.Less(s, s) {
			t.Errorf("%q", s)
		}
	}
}

// P3.3: of two texts one stands ahead, of three the order goes through.
func TestLessIsAnOrder(t *testing.T) {
	all := texts("ab\x80\xff", 3)
	for _, s := range []string{"é", "\ufffc", "\ufffd", "\ufffe", "\U00010000", "a\ufffd", "\ufffda", "\xed\xa0\x80", "\ufffd\ufffd", "\xff\ufffd", "\ufffd\xff"} {
		all = append(all, s)
	}
	for _, a := range all {
		for _, b := range all {
			if first, second := names.Less(a, b), names.Less(b, a); first && second || first == second && a != b {
				t.Errorf("%q, %q: %t, %t", a, b, first, second)
			}
		}
	}
	slices.SortFunc(all, func(a, b string) int {
		if names.Less(a, b) {
			return -1
		} else if names.Less(b, a) {
			return 1
		}
		return 0
	})
	for i, a := range all {
		for _, b := range all[i+1:] {
			if !names.Less(a, b) {
				t.Errorf("%q isn't ahead of %q", a, b)
			}
		}
	}
}

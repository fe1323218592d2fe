package names_test

import (
	"testing"

	"gabion/api"
	"gabion/names"
)

// P3.1: patterns, the names that fit them, and those that don't.
func TestMatch(t *testing.T) {
	list := func(l ...string) []string { return l }
	for _, c := range []struct {
		pattern  string
		fit, not []string
	}{
		{"*.[a-c]?", list("x.bz", ".aa", "x.y.cz", "..b."), list("x.dz", "x.b", "xbz", "x.bzz", "")},

		{"", list(""), list("a", " ", "\xff")},
		{"a", list("a"), list("", "b", "A", "aa", "ab", "ba")},
		{"abc", list("abc"), list("ab", "abcd", "abd", "bc", "xabc")},
		{"é", list("é"), list("e", "\xc3", "\xc3\xa8", "éé")},
		{"a b", list("a b"), list("ab", "a  b")},
		{"]", list("]"), list("[", "")},
		{"-^!", list("-^!"), list("a", "-^")},
		{"a]", list("a]"), list("a", "]")},
		{".", list("."), list("a")},
		{"/", list("/"), list("a")},

		{"*", list("", "a", "abc", "é世", "\xff\xfe", "a/b", ".a"), nil},
		{"**", list("", "a", "abc"), nil},
		{"a*", list("a", "ab", "aa", "abc"), list("", "ba", "b")},
		{"*a", list("a", "ba", "aa", "aba"), list("", "ab", "b")},
		{"a*b", list("ab", "acb", "abb", "aab", "abab"), list("a", "b", "aba", "ba", "xab")},
		{"*a*", list("a", "xa", "ax", "xax"), list("", "x", "xx")},
		{"*ab*ba*", list("abba", "xabxbax", "ababa", "abbba"), list("aba", "bab", "baab", "ab")},
		{"*aab", list("aab", "aaab", "aabaab"), list("aabb", "ab", "aaba")},
		{"a*a", list("aa", "aba"), list("a", "ab")},
		{"*?", list("a", "ab"), list("")},
		{"?*?", list("ab", "abc", "é世"), list("", "a", "é")},
		{"*ab?", list("abc", "ababc", "aabb"), list("ab", "abab", "abcd")},

		{"?", list("a", "é", "世", "\U00010348", "?", "/", "\xff", "\x00"), list("", "ab", "\xff\xfe", "\xe4\xb8")},
		{"??", list("ab", "é世", "\xff\xfe", "\xe4\xb8", "\xffa"), list("a", "é", "世", "abc")},
		{"a?c", list("abc", "aéc", "a\xffc"), list("ac", "abbc")},
	} {
		check(t, c.pattern, c.fit, c.not)
	}
}

// P3.1: brackets.
func TestMatchBrackets(t *testing.T) {
	list := func(l ...string) []string { return l }
	for _, c := range []struct {
		pattern  string
		fit, not []string
	}{
		{"[a]", list("a"), list("", "b", "aa", "[a]")},
		{"[abd]", list("a", "b", "d"), list("c", "e", "ab", "")},
		{"[é世]", list("é", "世"), list("e", "\xc3", "éé")},
		{"[aa]", list("a"), list("b")},
		{"x[ab]y", list("xay", "xby"), list("xy", "xcy", "xaby")},
		{"[ab][cd]", list("ac", "bd"), list("ab", "cd", "a")},
		{"*[ab]", list("a", "xb", "ab"), list("", "ax")},
		{"[*]", list("*"), list("", "a", "**")},
		{"[?]", list("?"), list("a")},
		{"[[]", list("["), list("a", "]")},
		{"[[a]]", list("[]", "a]"), list("a", "[", "]")},
		{"[a]]", list("a]"), list("a", "]")},
		{"[ ]", list(" "), list("")},

		{"[^a]", list("b", "^", "é", "\xff"), list("a", "", "bb")},
		{"[^ab]", list("c", "^"), list("a", "b")},
		{"[^^]", list("a"), list("^")},
		{"[a^]", list("a", "^"), list("b")},
		{"[a^b]", list("a", "^", "b"), list("c")},
		{"[^a-c]", list("d", "-", "^"), list("a", "b", "c", "")},
		{"[^^a]", list("b"), list("^", "a")},
		{"[^-]", list("a", "^"), list("-")},
		{"[^[]", list("a", "^"), list("[")},

		{"[a-c]", list("a", "b", "c"), list("d", "`", "-", "A", "")},
		{"[b-b]", list("b"), list("a", "c", "-")},
		{"[a-cx-z]", list("a", "c", "x", "z"), list("d", "w", "-")},
		{"[a-cm]", list("b", "m"), list("d", "-")},
		{"[ma-c]", list("b", "m"), list("d", "-")},
		{"[à-é世]", list("à", "è", "é", "世"), list("e", "ê", "-")},
		{"[\U00010340-\U00010350]", list("\U00010348"), list("a", "\xff")},
		{"[ -~]", list(" ", "a", "~", "-", "]"), list("\x1f", "\x7f", "é")},
		{"[*-?]", list("*", "?", "5"), list("@", ")")},
		{"[A-^]", list("A", "]", "^"), list("_", "-", "a")},
		{"[^A-^]", list("_", "-", "a"), list("A", "]", "^")},
		{"[A-[]", list("A", "["), list("]", "-")},
	} {
		check(t, c.pattern, c.fit, c.not)
	}
}

// P3.1: ranges that are none, or whose letters have another meaning elsewhere.
func TestMatchOddRanges(t *testing.T) {
	list := func(l ...string) []string { return l }
	for _, c := range []struct {
		pattern  string
		fit, not []string
	}{
		{"[c-a]", nil, list("a", "b", "c", "-", "")},
		{"[^c-a]", list("a", "b", "c", "-", "é"), list("", "aa")},
		{"[c-ax]", list("x"), list("a", "b", "c", "-")},
		{"[xc-a]", list("x"), list("a", "b", "c", "-")},
		{"[b-a]*", nil, list("", "a", "b")},

		{"[a-]", list("a", "-"), list("b", "]", "a]")},
		{"[a-]]", list("a]", "-]"), list("a", "]", "b]")},
		{"[-]", list("-"), list("a", "]")},
		{"[--]", list("-"), list("a", "]")},
		{"[---]", list("-"), list(",", ".", "a")},
		{"[-a]", list("-", "a"), list("b", "`")},
		{"[--/]", list("-", ".", "/"), list("0", ",")},
		{"[+--]", list("+", ",", "-"), list(".", "*")},
		{"[a--]", nil, list("a", "-", "b")},
		{"[a--c]", list("c"), list("a", "-", "b")},
		{"[a-c-e]", list("a", "b", "c", "-", "e"), list("d")},
		{"[a-c-]", list("a", "b", "c", "-"), list("d", "]")},
		{"[^a-]", list("b", "]"), list("a", "-")},
		{"[^-a]", list("b", "`"), list("-", "a")},
		{"[^--/]", list("0", "a"), list("-", ".", "/")},
	} {
		check(t, c.pattern, c.fit, c.not)
	}
}

// P3.1: a reversed stroke, ahead of letters, of brackets, of a range's first letter and of its second one.
func TestMatchStrokes(t *testing.T) {
	list := func(l ...string) []string { return l }
	for _, c := range []struct {
		pattern  string
		fit, not []string
	}{
		{`\*`, list("*"), list("", "a", `\*`, `\`, `\a`)},
		{`\?`, list("?"), list("a", `\?`)},
		{`\[a]`, list("[a]"), list("a", `\a`)},
		{`\[`, list("["), list(`\[`)},
		{`\]`, list("]"), list(`\]`)},
		{`\\`, list(`\`), list(`\\`, "")},
		{`\\*`, list(`\`, `\a`, `\*`), list("*", "a")},
		{`\\\*`, list(`\*`), list(`\a`, `\\`)},
		{`\a`, list("a"), list(`\a`, `\`)},
		{`a\bc`, list("abc"), list(`a\bc`)},
		{`\é`, list("é"), list(`\é`, `\`)},
		{`*\*`, list("*", "a*"), list("a", "*a")},

		{`[\]]`, list("]"), list(`\`, `\]`, "a")},
		{`[\]a]`, list("]", "a"), list(`\`)},
		{`[a\]]`, list("]", "a"), list(`\`, "a]")},
		{`[^\]]`, list("a", `\`, "^"), list("]")},
		{`[\^a]`, list("^", "a"), list(`\`, "b")},
		{`[^\^]`, list("a", `\`), list("^")},
		{`[\\]`, list(`\`), list("a", `\\`)},
		{`[\\a]`, list(`\`, "a"), list("b")},
		{`[\a]`, list("a"), list(`\`)},
		{`[\[]`, list("["), list(`\`)},
		{`[\-a]`, list("-", "a"), list(`\`, "b", "`")},
		{`[a\-c]`, list("a", "-", "c"), list("b", `\`)},
		{`[\é]`, list("é"), list(`\`)},

		{`[\a-c]`, list("a", "b", "c"), list(`\`, "-", "d")},
		{`[\A-C]`, list("A", "B", "C"), list(`\`, "-", "D")},
		{`[\]-a]`, list("]", "^", "_", "a"), list(`\`, "-", "b")},
		{`[\\-^]`, list(`\`, "]", "^"), list("[", "-", "_")},
		{`[\--/]`, list("-", ".", "/"), list(`\`, "0", ",")},
		{`[\^-a]`, list("^", "_", "a"), list("-", `\`, "]")},
		{`[\a-]`, list("a", "-"), list(`\`, "b", "]")},

		{`[A-\]`, list("A", "[", `\`, "Z"), list("]", "-", "a", "A]")},
		{`[A-\]]`, list("A]", `\]`), list("A", "]", `\`, "-]")},
		{`[a-\]`, nil, list("a", `\`, "-", "]")},
		{`[^a-\]`, list("a", `\`, "-", "]"), list("")},
		{`[A-\a]`, list("A", `\`, "a"), list("b", "]", "-")},
		{`[A-\\a]`, list("A", `\`, "a"), list("b", "]")},
		{`[A-\\]]`, list("A", `\`, "]"), list("^", "A]", "-")},
		{`[\\-\]`, list(`\`), list("]", "-", "[", `\]`)},
		{`[\A-\]`, list("A", `\`), list("]", "-")},
		{`[A-\-]`, list("A", `\`, "-"), list("]", "a")},
		{`[A-\-z]`, list("A", `\`, "-", "z"), list("]", "a")},
	} {
		check(t, c.pattern, c.fit, c.not)
	}
}

// P3.1: a name's byte that is no letter's counts as FFFD.
func TestMatchBytesThatAreNoLetters(t *testing.T) {
	list := func(l ...string) []string { return l }
	for _, c := range []struct {
		pattern  string
		fit, not []string
	}{
		{"\ufffd", list("\ufffd", "\xff", "\x80", "\xc3"), list("a", "\xff\xff", "")},
		{"\\\ufffd", list("\ufffd", "\xff"), list("\\", "a")},
		{"[\ufffd]", list("\ufffd", "\xff"), list("a")},
		{"[^\ufffd]", list("a", "é"), list("\ufffd", "\xff")},
		{"[\ufffc-\ufffe]", list("\xff", "\ufffc", "\ufffe"), list("a", "\uffff")},
		{"[\u0080-\u00ff]", list("é", "\u0080"), list("\x80", "\xe9", "\xff")},
		{"[^a]", list("\xff"), list("\xff\xff")},
		{"*\ufffd*", list("\xff", "a\xffb", "世"[:2]), list("世", "ab")},
		{"\ufffd\ufffd", list("世"[:2], "\xff\xfe"), list("\xff", "世")},
		{"é", list("é"), list("\xc3", "\xe9")},
		{"?a", list("\xffa", "éa"), list("é\xa9a")},
	} {
		check(t, c.pattern, c.fit, c.not)
	}
}

// check: do these names fit the pattern, and not those?
func check(t *testing.T, pattern string, fit, not []string) {
	t.Helper()
	for _, name := range fit {
		if is, e := names.Match(pattern, name); !is || e != api.OK {
			t.Errorf("%q doesn't fit %q: %t, %d", name, pattern, is, e)
		}
	}
	for _, name := range not {
		if is, e := names.Match(pattern, name); is || e != api.OK {
			t.Errorf("%q fits %q: %t, %d", name, pattern, is, e)
		}
	}
}

// P3.1, P1 (rule 2): patterns that are none, whatever the name is.
func TestMatchForm(t *testing.T) {
	for _, pattern := range []string{
		"\xff", "a\x80", "\x80a", "*\xff", "\xc3", "é\xa9", "世"[:2], "[\xff]", "[a\xff]", "[a-\xff]", "[^\xff]", "\\\xff", "\xc0\x80", "\xed\xa0\x80", "\xf4\x90\x80\x80",
		`\`, `a\`, `*\`, `\\\`, `[a]\`,
		"[", "[a", "[ab", "[^", "[^a", "[a-", "[a-b", "[-", "[^-", "a[", "*[", "?[", "[a][", "[[", "[a-c-", "[*", "[?",
		`[\`, `[\]`, `[a\`, `[a\]`, `[^\`, `[^\]`, `[\a`, `[\a-`, `[a-\`, `[A-\\]`, `[\]-a`, `[a]b[c\]`, `\[[`,
		"[]", "[^]", "[]a]", "[^]a]", "[]]", "[^]]", "a[]", "*[]", "[]b", "[a][]", "[][a]", "[]-a]", `[]\]`, `[A-\][]`,
	} {
		for _, name := range []string{"", "a", "ab", "[", "]", "^", "a]", `\`, pattern, "zzz", "\xff"} {
			if is, e := names.Match(pattern, name); is || e != api.Form {
				t.Errorf("%q, %q: %t, %d", pattern, name, is, e)
			}
		}
	}
}

// between: behind which place brackets, with which a pattern begins, are ended (0: nowhere), and may this letter stand for them?
func between(p []rune, c rune) (int, bool) {
	begin := 1
	if len(p) > 1 && p[1] == '^' {
		begin = 2
	}
	in := false
	for i := begin; i < len(p); i++ {
		if p[i] == ']' && i == begin {
			return 0, false
		}
		if p[i] == ']' {
			return i + 1, in != (begin == 2)
		}
		if p[i] == '\\' {
			i++
		}
		if i+2 < len(p) && p[i+1] == '-' && p[i+2] != ']' {
			in = in || p[i] <= c && c <= p[i+2]
			i += 2
		} else if i < len(p) {
			in = in || p[i] == c
		}
	}
	return 0, false
}

// whole: is it a pattern?
func whole(p []rune) bool {
	for len(p) > 0 {
		n := 1
		if p[0] == '[' {
			n, _ = between(p, 0)
		} else if p[0] == '\\' {
			n = 2
		}
		if n == 0 || n > len(p) {
			return false
		}
		p = p[n:]
	}
	return true
}

// fits: Match in other words, of a pattern that is one: each * is tried at all lengths.
func fits(p, name []rune) bool {
	if len(p) == 0 {
		return len(name) == 0
	}
	if p[0] == '*' {
		return fits(p[1:], name) || len(name) > 0 && fits(p, name[1:])
	}
	if len(name) == 0 {
		return false
	}
	n, may := 1, p[0] == '?' || p[0] == name[0]
	if p[0] == '[' {
		n, may = between(p, name[0])
	} else if p[0] == '\\' {
		n, may = 2, p[1] == name[0]
	}
	return may && fits(p[n:], name[1:])
}

// agree: does Match answer as the other words do?
func agree(t *testing.T, pattern string, list []string) {
	t.Helper()
	p := []rune(pattern)
	want := api.Form
	if whole(p) {
		want = api.OK
	}
	for _, name := range list {
		is, e := names.Match(pattern, name)
		if e != want || is != (e == api.OK && fits(p, []rune(name))) {
			t.Fatalf("%q, %q: %t, %d", pattern, name, is, e)
		}
	}
}

// P3.1: all short patterns, and all short lists between brackets, against the same in other words.
func TestMatchOfAllShortPatterns(t *testing.T) {
	list := append(texts("ab", 3), "]", "[", "\\", "^", "-", "*", "?", "a]", "-]", "\\]", "b-", "\xff", "\xffa")
	for _, pattern := range texts("a*?[]^-\\", 4) {
		agree(t, pattern, list)
	}
	list = []string{"a", "b", "]", "\\", "^", "_", "-", "A", "", "a]", "^]", "\\]", "-]", "\xff"}
	for _, pattern := range texts("Aa]^-\\", 5) {
		agree(t, "["+pattern, list)
		agree(t, "["+pattern+"]", list)
	}
}

// P3.1: any letters, between others, at any length.
func TestMatchOfManyStars(t *testing.T) {
	list := texts("ab", 7)
	for _, pattern := range texts("ab*?", 5) {
		agree(t, pattern, list)
	}
	long := times("ab", 500)
	check(t, "*b", []string{long}, []string{long + "a"})
	check(t, "a*ab", []string{long}, []string{long + "b"})
	check(t, times("[a-b]", 1000), []string{long}, []string{long + "a", long[1:]})
	check(t, times("*", 1000), []string{long, ""}, nil)
}

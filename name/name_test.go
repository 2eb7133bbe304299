package name

import (
	"slices"
	"strings"
	"testing"
)

// signs has texts of each byte, beside those of more than one.
func signs() []string {
	var out []string
	for c := range 256 {
		out = append(out, string([]byte{byte(c)}))
	}
	return append(out, "é", "\u2028", "日本", "🙂")
}

// P3.1

func TestRight(t *testing.T) {
	for _, s := range []string{"a", "z", "rialto", "rialto2", "a0", "z9", "ab0cd9", "abcdefghijkl", "a12345678901"} {
		if !Right(s) {
			t.Error(s)
		}
	}
	for _, s := range []string{
		"", "2rialto", "0", "9", "A", "Rialto", "riAlto", "rialto ", " rialto", "ri alto", "ri-alto", "ri_alto", "ri.alto",
		"rialto\n", "rialto\x00", "\x00", "a\x7f", "a\x80", "\xffa", "é", "aé", "abcdefghijklm", "a123456789012", strings.Repeat("a", 5000),
	} {
		if Right(s) {
			t.Error(s)
		}
	}
}

func TestEachByteOfAName(t *testing.T) {
	const small, digits = "abcdefghijklmnopqrstuvwxyz", "0123456789"
	for c := range 256 {
		s := string([]byte{byte(c)})
		first := strings.Contains(small, s)
		later := first || strings.Contains(digits, s)
		if Right(s) != first || Right(s+"a") != first {
			t.Error("first", c)
		}
		for _, name := range []string{"a" + s, "a" + s + "b", "abcdefghijk" + s} {
			if Right(name) != later {
				t.Error("later", c, name)
			}
		}
	}
}

func TestText(t *testing.T) {
	for _, s := range []string{"a", "!", "~", "a b", "a  b", "Hello, World: 1 + 1 = 2", "\"'\\", strings.Repeat("x", 39), strings.Repeat("x", 40), "a" + strings.Repeat(" ", 38) + "b"} {
		if !Text(s) {
			t.Error(s)
		}
	}
	for _, s := range []string{"", " ", "  ", " a", "a ", " a ", "\t", "a\tb", "a\n", "\x00", "a\x1fb", "a\x7fb", "a\x80b", "\xff", "é", strings.Repeat("x", 41), strings.Repeat("x", 5000), strings.Repeat(" ", 40), "a" + strings.Repeat(" ", 39), " " + strings.Repeat("x", 39)} {
		if Text(s) {
			t.Error(s)
		}
	}
	for c := range 256 {
		s := string([]byte{byte(c)})
		inner := c >= 32 && c <= 126
		outer := inner && c != 32
		if Text(s) != outer || Text(s+"a") != outer || Text("a"+s) != outer || Text("a"+s+"a") != inner || Text(strings.Repeat("a", 38)+s+"a") != inner {
			t.Error(c)
		}
	}
}

// P3.2

func TestIndex(t *testing.T) {
	l := []string{"b", "a", "", "a", "c", "b"}
	for s, want := range map[string]int{"b": 0, "a": 1, "": 2, "c": 4, "d": -1, "A": -1, "aa": -1, "a ": -1, "\x00": -1} {
		if got := Index(l, s); got != want {
			t.Error(s, got)
		}
	}
	for _, l := range [][]string{nil, {}, l[:0]} {
		if Index(l, "") != -1 || Index(l, "b") != -1 {
			t.Error("none", l)
		}
	}
	// What lies behind the list's length is not looked at.
	if Index(l[:1], "a") != -1 {
		t.Error("behind the end")
	}
}

func TestApart(t *testing.T) {
	for _, l := range [][]string{nil, {}, {""}, {"a"}, {"a", "b"}, {"", "a"}, {"b", "a", "c"}, {"a", "A", "a ", "aa"}, {"\xff", "\xfe", ""}} {
		if !Apart(l) {
			t.Error(l)
		}
	}
	for _, l := range [][]string{{"", ""}, {"a", "a"}, {"a", "b", "a"}, {"c", "b", "a", "b"}, {"a", "a", "a"}, {"", "x", ""}} {
		if Apart(l) {
			t.Error(l)
		}
	}
	if l := []string{"a", "b", "a"}; !Apart(l[:2]) {
		t.Error("behind the end")
	}
}

func TestApartOfMany(t *testing.T) {
	var l []string
	for i := range 200000 {
		l = append(l, strings.Repeat("x", i%7)+string(rune(i)))
	}
	slices.Sort(l)
	l = slices.Compact(l)
	if !Apart(l) {
		t.Error("apart")
	}
	if Apart(append(l, l[len(l)/2])) {
		t.Error("not apart")
	}
}

// Rule 5: lists that are handed in stay as they are.

func TestListsStay(t *testing.T) {
	all := []string{"c", "a", "b", "a", "y", "x", "x"}
	was := slices.Clone(all)
	l := all[:4]
	Apart(l)
	Index(l, "b")
	if !slices.Equal(all, was) {
		t.Error(all)
	}
}

// P3.3

func TestClean(t *testing.T) {
	x40 := strings.Repeat("x", 40)
	for _, x := range []struct{ s, want string }{
		{"", ""},
		{" ", ""},
		{"    ", ""},
		{"\n\t\x00\x7f\x80\xff", ""},
		{"  a", "a"},
		{"a  ", "a"},
		{"  a  ", "a"},
		{" a  b ", "a  b"},
		{"a\nb", "ab"},
		{"\n a \n", "a"},
		{" \n a \n ", "a"},
		{"a \x00 b", "a  b"},
		{"\x7f~\x7f", "~"},
		{"é", ""},
		{"aéb", "ab"},
		{"a\u00a0", "a"},
		{"\u3000a", "a"},
		{x40, x40},
		{x40 + "y", x40},
		{x40 + " y", x40},
		{"  " + x40 + "y", x40},
		{x40[:39] + " y", x40[:39]},
		{x40[:37] + "   y", x40[:37]},
		{"a" + strings.Repeat(" ", 39) + "b", "a"},
		{"a" + strings.Repeat(" ", 38) + "b", "a" + strings.Repeat(" ", 38) + "b"},
		{strings.Repeat("\x01", 50) + x40[:39] + "\x02" + "zz", x40[:39] + "z"},
		{strings.Repeat(" ", 50) + "a", "a"},
		{strings.Repeat("ab\x80", 30), strings.Repeat("ab", 20)},
	} {
		if got := Clean(x.s); got != x.want {
			t.Errorf("%q: %q", x.s, got)
		}
	}
}

// P3.4

func TestWhatFollows(t *testing.T) {
	var l []string
	for _, s := range signs() {
		for _, r := range []string{"", " ", "a", "0", "\n", "A "} {
			l = append(l, s, s+r, r+s, r+s+r, strings.Repeat(s, 12), strings.Repeat(s, 13), strings.Repeat(s+r, 20), strings.Repeat(s, 39)+r, strings.Repeat(s, 40)+r)
		}
	}
	for _, s := range l {
		if Right(s) && !Text(s) {
			t.Errorf("a name that is no text: %q", s)
		}
		c := Clean(s)
		if c != "" && !Text(c) || Clean(c) != c {
			t.Errorf("cleaned: %q %q", s, c)
		}
		if Text(s) && c != s {
			t.Errorf("a text that is cleaned: %q %q", s, c)
		}
	}
}

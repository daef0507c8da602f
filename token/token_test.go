package token

import (
	"slices"
	"strings"
	"testing"

	"highroad/api"
)

// texts are all texts of at most n bytes out of the given ones.
func texts(bytes string, n int) []string {
	l := []string{""}
	for first := 0; n > 0; n-- {
		last := len(l)
		for _, s := range l[first:last] {
			for i := range len(bytes) {
				l = append(l, s+bytes[i:i+1])
			}
		}
		first = last
	}
	return l
}

// lists are all lists of at most n of the given elements.
func lists(elements []string, n int) [][]string {
	l := [][]string{nil}
	for first := 0; n > 0; n-- {
		last := len(l)
		for _, list := range l[first:last] {
			for _, s := range elements {
				l = append(l, append(slices.Clone(list), s))
			}
		}
		first = last
	}
	return l
}

// repeated is a list of n times s.
func repeated(s string, n int) []string {
	return slices.Repeat([]string{s}, n)
}

func checkWords(t *testing.T, line string, want []string, fault api.Fault) {
	t.Helper()
	got, f := Words(line)
	if !slices.Equal(got, want) || f != fault {
		t.Errorf("Words(%.40q) of %d bytes: %d words %.40q and %d, not %d words %.40q and %d", line, len(line), len(got), got, f, len(want), want, fault)
	}
}

// P301: the words, and what stands ahead of, between and behind them.
func TestWords(t *testing.T) {
	cases := []struct {
		line string
		want []string
	}{
		{"", nil},
		{" ", nil},
		{"\t", nil},
		{"  \t \t\t ", nil},
		{"a", []string{"a"}},
		{"abc", []string{"abc"}},
		{" a\t bc ", []string{"a", "bc"}},
		{" a\tb", []string{"a", "b"}},
		{"a b", []string{"a", "b"}},
		{"a\tb", []string{"a", "b"}},
		{"a  b\t\tc \t d\t e", []string{"a", "b", "c", "d", "e"}},
		{"   a", []string{"a"}},
		{"\t\ta", []string{"a"}},
		{"a   ", []string{"a"}},
		{"a\t\t", []string{"a"}},
		{"\t  first \t\t second\t \t", []string{"first", "second"}},
		{"a a a", []string{"a", "a", "a"}},
		{"! ~", []string{"!", "~"}},
		{"!~ ~!", []string{"!~", "~!"}},
		{"LOAD 3 2 0 1 4 1 2 5", []string{"LOAD", "3", "2", "0", "1", "4", "1", "2", "5"}},
		{"#x \"y\" a,b 1/2 \\ 0:0.1", []string{"#x", "\"y\"", "a,b", "1/2", "\\", "0:0.1"}},
	}
	for _, c := range cases {
		checkWords(t, c.line, c.want, api.OK)
	}
}

// P301: each byte alone, within a word, and between two spaces.
func TestWordsOfEachByte(t *testing.T) {
	for i := range 256 {
		s := string([]byte{byte(i)})
		switch {
		case s == " " || s == "\t":
			checkWords(t, s, nil, api.OK)
			checkWords(t, "a"+s+"b", []string{"a", "b"}, api.OK)
			checkWords(t, "a "+s+" b", []string{"a", "b"}, api.OK)
		case i >= 0x21 && i <= 0x7e:
			checkWords(t, s, []string{s}, api.OK)
			checkWords(t, "a"+s+"b", []string{"a" + s + "b"}, api.OK)
			checkWords(t, "a "+s+" b", []string{"a", s, "b"}, api.OK)
		default:
			for _, line := range []string{s, "a" + s + "b", "a " + s + " b", s + "a", "a" + s, " " + s, s + " ", "a\t" + s} {
				checkWords(t, line, nil, api.Syntax)
			}
		}
	}
}

// P301: bytes that are those of no word, space or tab.
func TestWordsSyntax(t *testing.T) {
	lines := []string{
		"\x00", "a\x00", "\x1f", "\x7f", "\x80", "\xff", "a\n", "\n", "a\r", "\r", "a\vb", "a\fb",
		"a b c\x00", "\x00a b c", "a b\x00 c", "a \x00b c", "   \x00", "\x00   ",
		"\u00e9", "a\u00a0b", "a\u0085b", "a\u2003b", "\u3042", "a\ufffd", "\xc3", "a \xc3( b",
	}
	for _, line := range lines {
		checkWords(t, line, nil, api.Syntax)
	}
}

// P301: a line of just MaxLine bytes, and of one more.
func TestWordsOfLongLines(t *testing.T) {
	long := strings.Repeat("a", api.MaxLine)
	checkWords(t, long, []string{long}, api.OK)
	checkWords(t, long+"a", nil, api.TooBig)
	checkWords(t, long+" ", nil, api.TooBig)

	blank := strings.Repeat(" ", api.MaxLine)
	checkWords(t, blank, nil, api.OK)
	checkWords(t, blank+" ", nil, api.TooBig)
	checkWords(t, blank[1:]+"a", []string{"a"}, api.OK)
	checkWords(t, blank+"a", nil, api.TooBig)
	checkWords(t, "b"+blank[2:]+"a", []string{"b", "a"}, api.OK)
	checkWords(t, "b"+blank[1:]+"a", nil, api.TooBig)
}

// P301: just MaxWords words, and one more.
func TestWordsOfManyWords(t *testing.T) {
	many := strings.Repeat("a ", api.MaxWords)
	checkWords(t, many, repeated("a", api.MaxWords), api.OK)
	checkWords(t, many[:len(many)-1], repeated("a", api.MaxWords), api.OK)
	checkWords(t, "\t "+many+"\t ", repeated("a", api.MaxWords), api.OK)
	checkWords(t, many+"a", nil, api.TooBig)
	checkWords(t, many+"a ", nil, api.TooBig)
	checkWords(t, strings.Repeat("a ", 2*api.MaxWords), nil, api.TooBig)

	full := strings.Repeat("abc ", api.MaxWords)
	checkWords(t, full, repeated("abc", api.MaxWords), api.OK)
	checkWords(t, full+" ", nil, api.TooBig)
}

// P301, rule 2: too long a line comes ahead of a wrong byte, and that ahead of too many words.
func TestWordsOrderOfFaults(t *testing.T) {
	long := strings.Repeat("a", api.MaxLine)
	checkWords(t, long+"\x00", nil, api.TooBig)
	checkWords(t, "\x00"+long, nil, api.TooBig)
	checkWords(t, long[1:]+"\x00", nil, api.Syntax)
	checkWords(t, "\x00"+long[1:], nil, api.Syntax)

	many := strings.Repeat("a ", api.MaxWords+1)
	checkWords(t, many, nil, api.TooBig)
	checkWords(t, many+"\x00", nil, api.Syntax)
	checkWords(t, many+"a\x7f", nil, api.Syntax)
	checkWords(t, "\x80"+many, nil, api.Syntax)
	checkWords(t, strings.Repeat("a ", api.MaxLine/2)+"\x00", nil, api.TooBig)
	checkWords(t, strings.Repeat("a ", api.MaxLine/2-1)+"\x00", nil, api.Syntax)
}

// P301: all short lines, against those that are cut at single spaces.
func TestWordsOfShortLines(t *testing.T) {
	for _, line := range texts(" \ta~\x00", 6) {
		want, fault := []string(nil), api.Syntax
		if !strings.Contains(line, "\x00") {
			fault = api.OK
			for _, s := range strings.Split(strings.ReplaceAll(line, "\t", " "), " ") {
				if s != "" {
					want = append(want, s)
				}
			}
		}
		checkWords(t, line, want, fault)
	}
}

func checkJoin(t *testing.T, l []string, want string, fault api.Fault) {
	t.Helper()
	got, f := Join(l)
	if got != want || f != fault {
		t.Errorf("Join of %d, %.40q: %d bytes %.40q and %d, not %d bytes %.40q and %d", len(l), l, len(got), got, f, len(want), want, fault)
	}
}

// P302 (Join).
func TestJoin(t *testing.T) {
	checkJoin(t, nil, "", api.OK)
	checkJoin(t, []string{}, "", api.OK)
	checkJoin(t, []string{"a"}, "a", api.OK)
	checkJoin(t, []string{"a", "b"}, "a b", api.OK)
	checkJoin(t, []string{"a", "a", "a"}, "a a a", api.OK)
	checkJoin(t, []string{"ok", "ROUTE", "9:0.1"}, "ok ROUTE 9:0.1", api.OK)
	checkJoin(t, []string{"!~", "~", "!"}, "!~ ~ !", api.OK)
}

// P302: elements that are not words, at each place.
func TestJoinOfWrongWords(t *testing.T) {
	for _, s := range []string{"", " ", "\t", "\x00", "\x20", "\x7f", "\x80", "\xff", "a b", " a", "a ", "a\tb", "a\n", "\r", "a\x00", "\u00e9", "a\ufffd"} {
		for _, l := range [][]string{{s}, {s, "a"}, {"a", s}, {"a", s, "b"}, {s, s}} {
			checkJoin(t, l, "", api.BadArg)
		}
	}
}

// P302: just MaxWords words, and one more.
func TestJoinOfManyWords(t *testing.T) {
	many := repeated("a", api.MaxWords+1)
	checkJoin(t, many[:api.MaxWords], strings.Repeat("a ", api.MaxWords-1)+"a", api.OK)
	checkJoin(t, many, "", api.TooBig)
	checkJoin(t, repeated("a", 2*api.MaxWords), "", api.TooBig)
	checkJoin(t, repeated("a", 8*api.MaxWords), "", api.TooBig)
}

// P302: a result of just MaxLine bytes, and of one more.
func TestJoinOfLongResults(t *testing.T) {
	long := strings.Repeat("a", api.MaxLine+1)
	checkJoin(t, []string{long[1:]}, long[1:], api.OK)
	checkJoin(t, []string{long}, "", api.TooBig)
	checkJoin(t, []string{long + long}, "", api.TooBig)
	checkJoin(t, []string{long[3:], "b"}, long[3:]+" b", api.OK)
	checkJoin(t, []string{long[2:], "b"}, "", api.TooBig)
	checkJoin(t, []string{"b", long[3:]}, "b "+long[3:], api.OK)
	checkJoin(t, []string{"b", long[2:]}, "", api.TooBig)
	checkJoin(t, []string{"b", long[5:], "c"}, "b "+long[5:]+" c", api.OK)
	checkJoin(t, []string{"b", long[4:], "c"}, "", api.TooBig)
	checkJoin(t, []string{long[1:], "b"}, "", api.TooBig)
	checkJoin(t, []string{long[1:], long[1:]}, "", api.TooBig)

	full := repeated("abc", api.MaxWords)
	checkJoin(t, full, strings.Repeat("abc ", api.MaxWords-1)+"abc", api.OK)
	full[0] = "abcd"
	checkJoin(t, full, "abcd"+strings.Repeat(" abc", api.MaxWords-1), api.OK)
	full[api.MaxWords-1] = "abcd"
	checkJoin(t, full, "", api.TooBig)
}

// P302, rule 2: an element that is not a word comes ahead of too many, and of too long a result.
func TestJoinOrderOfFaults(t *testing.T) {
	long := strings.Repeat("a", api.MaxLine+1)
	checkJoin(t, append(repeated("a", api.MaxWords), ""), "", api.BadArg)
	checkJoin(t, append(repeated("a", 2*api.MaxWords), "b c"), "", api.BadArg)
	checkJoin(t, append([]string{""}, repeated("a", 2*api.MaxWords)...), "", api.BadArg)
	checkJoin(t, []string{long, ""}, "", api.BadArg)
	checkJoin(t, []string{"", long}, "", api.BadArg)
	checkJoin(t, []string{long + " "}, "", api.BadArg)
	checkJoin(t, []string{long, "a", "\x7f"}, "", api.BadArg)
}

// Rule 4: Join leaves what it is given, and what lies behind it.
func TestJoinLeavesItsArguments(t *testing.T) {
	l := []string{"a", "b", "c", ""}
	checkJoin(t, l[:2], "a b", api.OK)
	if !slices.Equal(l, []string{"a", "b", "c", ""}) {
		t.Errorf("the words became %q", l)
	}
}

// P303 (Lines).
func TestLines(t *testing.T) {
	cases := []struct {
		text string
		want []string
		rest string
	}{
		{"", nil, ""},
		{"a", nil, "a"},
		{"\r", nil, "\r"},
		{"a\r", nil, "a\r"},
		{"a\rb", nil, "a\rb"},
		{"\n", []string{""}, ""},
		{"\n\n", []string{"", ""}, ""},
		{"\n\n\n", []string{"", "", ""}, ""},
		{"a\n", []string{"a"}, ""},
		{"a\nb", []string{"a"}, "b"},
		{"a\nb\n", []string{"a", "b"}, ""},
		{"a\r\nb\nc", []string{"a", "b"}, "c"},
		{"a\n\nb", []string{"a", ""}, "b"},
		{"\na", []string{""}, "a"},
		{"\r\n", []string{""}, ""},
		{"\r\n\r\n", []string{"", ""}, ""},
		{"\n\r\n", []string{"", ""}, ""},
		{"\r\n\n", []string{"", ""}, ""},
		{"\n\r", []string{""}, "\r"},
		{"a\n\r", []string{"a"}, "\r"},
		{"a\nb\r", []string{"a"}, "b\r"},
		{"a\r\r\n", []string{"a\r"}, ""},
		{"\r\r\n", []string{"\r"}, ""},
		{"\r\r\r\nb", []string{"\r\r"}, "b"},
		{"\ra\n", []string{"\ra"}, ""},
		{"a\rb\n", []string{"a\rb"}, ""},
		{"a\rb\r\nc\r", []string{"a\rb"}, "c\r"},
		{"a\r \n", []string{"a\r "}, ""},
		{" a \n\t\n", []string{" a ", "\t"}, ""},
		{"\x00\n\xff\x80\r\n\xc3", []string{"\x00", "\xff\x80"}, "\xc3"},
		{"a\u2028b\u0085c\vd\fe\nf", []string{"a\u2028b\u0085c\vd\fe"}, "f"},
	}
	for _, c := range cases {
		if got, rest := Lines(c.text); !slices.Equal(got, c.want) || rest != c.rest {
			t.Errorf("Lines(%q): %q and %q, not %q and %q", c.text, got, rest, c.want, c.rest)
		}
	}
}

// P303: a line may have more than MaxLine bytes, and a text more than MaxWords lines.
func TestLinesWithoutLimits(t *testing.T) {
	long := strings.Repeat("a", 3*api.MaxLine)
	if l, rest := Lines(long + "\r\n" + long); !slices.Equal(l, []string{long}) || rest != long {
		t.Errorf("long lines: %d of them, and %d bytes", len(l), len(rest))
	}
	if l, rest := Lines(strings.Repeat("a\r\n", 3*api.MaxWords) + "b"); !slices.Equal(l, repeated("a", 3*api.MaxWords)) || rest != "b" {
		t.Errorf("many lines: %d of them, and %q", len(l), rest)
	}
}

// P303 (Cut).
func TestCut(t *testing.T) {
	cases := []struct {
		text, line, rest string
		cut              bool
	}{
		{"x\ny", "x", "y", true},
		{"", "", "", false},
		{"x", "", "x", false},
		{"x\r", "", "x\r", false},
		{"\r", "", "\r", false},
		{"x\ry", "", "x\ry", false},
		{"\n", "", "", true},
		{"\n\n", "", "\n", true},
		{"\nx", "", "x", true},
		{"x\n", "x", "", true},
		{"x\ny\n", "x", "y\n", true},
		{"x\ny\nz", "x", "y\nz", true},
		{"x\n\ny", "x", "\ny", true},
		{"x\r\ny\r\nz", "x", "y\r\nz", true},
		{"\r\n", "", "", true},
		{"\r\n\r\n", "", "\r\n", true},
		{"\n\r\n", "", "\r\n", true},
		{"x\n\ry", "x", "\ry", true},
		{"x\r\r\ny", "x\r", "y", true},
		{"\r\r\n", "\r", "", true},
		{"\rx\ny", "\rx", "y", true},
		{"x\ry\nz\r", "x\ry", "z\r", true},
		{"\x00\xff\n\x80", "\x00\xff", "\x80", true},
	}
	for _, c := range cases {
		if line, rest, cut := Cut(c.text); line != c.line || rest != c.rest || cut != c.cut {
			t.Errorf("Cut(%q): %q, %q and %t, not %q, %q and %t", c.text, line, rest, cut, c.line, c.rest, c.cut)
		}
	}
}

// P303: in all short texts Lines finds what Cut cuts, one line after the other.
func TestLinesAreCut(t *testing.T) {
	for _, text := range texts("\n\ra ", 7) {
		lines, end := Lines(text)
		rest := text
		for i, want := range lines {
			line, behind, cut := Cut(rest)
			if line != want || !cut {
				t.Errorf("Lines(%q): line %d is %q; Cut(%q): %q and %t", text, i, want, rest, line, cut)
			}
			rest = behind
		}
		if line, behind, cut := Cut(rest); line != "" || behind != end || cut {
			t.Errorf("Lines(%q) leaves %q; Cut(%q): %q, %q and %t", text, end, rest, line, behind, cut)
		}
	}
}

// P304 (Upper).
func TestUpper(t *testing.T) {
	cases := []struct{ s, want string }{
		{"", ""},
		{"aZ1", "AZ1"},
		{"route", "ROUTE"},
		{"ROUTE", "ROUTE"},
		{"a b\tc\r\n", "A B\tC\r\n"},
		{"`az{", "`AZ{"},
		{"@AZ[", "@AZ["},
		{"\x00a\x7fz\x80", "\x00A\x7fZ\x80"},
		{"\xe1\xfa\xffa", "\xe1\xfa\xffA"},
		{"\u00e9a\u00df", "\u00e9A\u00df"},
		{"\u0131\u017f\u212ak", "\u0131\u017f\u212aK"},
	}
	for _, c := range cases {
		if got := Upper(c.s); got != c.want {
			t.Errorf("Upper(%q): %q, not %q", c.s, got, c.want)
		}
	}
}

// P304: each byte, alone and between others.
func TestUpperOfEachByte(t *testing.T) {
	const small, great = "abcdefghijklmnopqrstuvwxyz", "ABCDEFGHIJKLMNOPQRSTUVWXYZ"
	for i := range 256 {
		s := string([]byte{byte(i)})
		want := s
		if at := strings.Index(small, s); at >= 0 {
			want = great[at : at+1]
		}
		if got := Upper(s); got != want {
			t.Errorf("Upper(%q): %q, not %q", s, got, want)
		}
		if got := Upper("x" + s + "y"); got != "X"+want+"Y" {
			t.Errorf("Upper(%q): %q, not %q", "x"+s+"y", got, "X"+want+"Y")
		}
	}
}

// P304 (Right).
func TestRight(t *testing.T) {
	right := []string{"a", "!", "~", "!~", "abc", "0", "LOAD", "#", "9:0.1", "!\"#$%&'()*+,-./", ":;<=>?@[\\]^_`{|}~", strings.Repeat("a", 2*api.MaxLine)}
	for _, s := range right {
		if !Right(s) {
			t.Errorf("Right(%.40q): false", s)
		}
	}
	wrong := []string{"", " ", "\t", "a b", " a", "a ", "a\t", "a\n", "\r", "\x00", "a\x00", "\x00a", "a\x20b", "a\x7f", "\x7fa", "a\x80", "\x80a", "\xff", "a\u00e9b", "\u3042", strings.Repeat("a", 2*api.MaxLine) + " "}
	for _, s := range wrong {
		if Right(s) {
			t.Errorf("Right(%.40q): true", s)
		}
	}
}

// P304: each byte, alone and at each place of a word.
func TestRightOfEachByte(t *testing.T) {
	for i := range 256 {
		s := string([]byte{byte(i)})
		want := i >= 0x21 && i <= 0x7e
		for _, w := range []string{s, s + "ab", "a" + s + "b", "ab" + s} {
			if got := Right(w); got != want {
				t.Errorf("Right(%q): %t", w, got)
			}
		}
	}
}

// P305: Words returns the words that were joined.
func TestWordsReadsJoin(t *testing.T) {
	l := lists([]string{"a", "!", "~x~", "LOAD", "12"}, 4)
	l = append(l, repeated("a", api.MaxWords), repeated("abc", api.MaxWords), []string{strings.Repeat("a", api.MaxLine)})
	for _, words := range l {
		line, fault := Join(words)
		if fault != api.OK {
			t.Errorf("Join of %d, %.40q: %d", len(words), words, fault)
		}
		checkWords(t, line, words, api.OK)
	}
}

// P305: what Words returns can be joined, and is read again; each of them is Right.
func TestJoinTakesWords(t *testing.T) {
	for _, line := range texts(" \ta~", 6) {
		words, _ := Words(line)
		joined, fault := Join(words)
		if fault != api.OK || len(joined) > len(line) || slices.ContainsFunc(words, func(s string) bool { return !Right(s) }) {
			t.Errorf("Words(%q): %q, joined %q and %d", line, words, joined, fault)
		}
		checkWords(t, joined, words, api.OK)
	}
}

// terminated writes lines, each with its end behind it, and then the rest.
func terminated(lines []string, end, rest string) string {
	var b strings.Builder
	for _, s := range lines {
		b.WriteString(s + end)
	}
	return b.String() + rest
}

// P305: lines and the rest are the text, where no carriage return is part of an end.
func TestLinesAreTheText(t *testing.T) {
	for _, text := range texts("\n\ra ", 7) {
		lines, rest := Lines(text)
		want := strings.ReplaceAll(text, "\r\n", "\n")
		if got := terminated(lines, "\n", rest); got != want || strings.Contains(rest, "\n") {
			t.Errorf("Lines(%q): %q and %q", text, lines, rest)
		}
	}
}

// P305: lines that are written, with either end, are read as they were.
func TestLinesReadsLines(t *testing.T) {
	for _, lines := range lists([]string{"", "a", " b\t", "\rc", "d\re"}, 4) {
		for _, end := range []string{"\n", "\r\n"} {
			for _, rest := range []string{"", "a", "\r"} {
				text := terminated(lines, end, rest)
				if got, left := Lines(text); !slices.Equal(got, lines) || left != rest {
					t.Errorf("Lines(%q): %q and %q, not %q and %q", text, got, left, lines, rest)
				}
			}
		}
	}
}

package lex

import (
	"bytes"
	"fmt"
	"math"
	"math/rand"
	"slices"
	"strings"
	"testing"

	"comptroller/api"
)

// same tells whether both have the same lines; no words and nil words are alike.
func same(a, b []Line) bool {
	return slices.EqualFunc(a, b, func(x, y Line) bool {
		return x.N == y.N && slices.Equal(x.Words, y.Words)
	})
}

// copied answers lines that share no memory with l.
func copied(l []Line) []Line {
	var to []Line
	for _, line := range l {
		to = append(to, Line{line.N, slices.Clone(line.Words)})
	}
	return to
}

// shown answers s, or its beginning, if it is long.
func shown(s string) string {
	return s[:min(len(s), 200)]
}

// told answers lines, or the first of them, so that each byte can be seen.
func told(l []Line) string {
	var s string
	for _, line := range l {
		s += fmt.Sprintf("{%d %q}", line.N, line.Words)
		if len(s) > 200 {
			break
		}
	}
	return shown(s)
}

func checkLines(t *testing.T, s string, want []Line, wantE api.Errno) {
	t.Helper()
	l, e := Lines(s)
	if !same(l, want) || e != wantE {
		t.Fatalf("Lines(%q) of %d bytes = %s, %d; want %s, %d", shown(s), len(s), told(l), e, told(want), wantE)
	}
}

// wantLines answers what P5.1 asks of Lines, byte by byte.
func wantLines(s string) ([]Line, api.Errno) {
	if len(s) > 20000 {
		return nil, api.ErrBig
	}
	for _, b := range []byte(s) {
		if b != 9 && b != 10 && b < 32 || b > 126 {
			return nil, api.ErrForm
		}
	}
	var lines []Line
	line, word, off := Line{N: 1}, []byte(nil), false
	endWord := func() {
		if len(word) > 0 {
			line.Words = append(line.Words, string(word))
		}
		word = nil
	}
	endLine := func() {
		endWord()
		if len(line.Words) > 0 {
			lines = append(lines, line)
		}
		line, off = Line{N: line.N + 1}, false
	}
	for _, b := range []byte(s) {
		switch {
		case b == 10:
			endLine()
		case off:
		case b == 35:
			off = true
		case b == 9 || b == 32:
			endWord()
		default:
			word = append(word, b)
		}
	}
	endLine()
	return lines, api.OK
}

// wantName answers what P5.2 asks of Name.
func wantName(s string) bool {
	const letters = "abcdefghijklmnopqrstuvwxyzABCDEFGHIJKLMNOPQRSTUVWXYZ"
	for i, b := range []byte(s) {
		may := letters
		if i > 0 {
			may += "0123456789._-"
		}
		if !bytes.Contains([]byte(may), []byte{b}) {
			return false
		}
	}
	return len(s) >= 1 && len(s) <= 12
}

func TestLines(t *testing.T) {
	for _, x := range []struct {
		s    string
		want []Line
	}{
		{"a b # c\n\n d", []Line{{1, []string{"a", "b"}}, {3, []string{"d"}}}},
		{"entity E1 USD", []Line{{1, []string{"entity", "E1", "USD"}}}},
		{"fact E1 cash F0 - 12\nfact E1 cash F9 - -12\n", []Line{{1, []string{"fact", "E1", "cash", "F0", "-", "12"}}, {2, []string{"fact", "E1", "cash", "F9", "-", "-12"}}}},
		// Nothing, and nothing with ends.
		{"", nil},
		{"\n", nil},
		{"\n\n\n", nil},
		// With an end behind the last line, and without.
		{"a", []Line{{1, []string{"a"}}}},
		{"a\n", []Line{{1, []string{"a"}}}},
		{"a\n\n", []Line{{1, []string{"a"}}}},
		{"a\nb", []Line{{1, []string{"a"}}, {2, []string{"b"}}}},
		{"a\nb\n", []Line{{1, []string{"a"}}, {2, []string{"b"}}}},
		// Lines without words count.
		{"\na", []Line{{2, []string{"a"}}}},
		{"\n\n\na\n\nb", []Line{{4, []string{"a"}}, {6, []string{"b"}}}},
		{" \na", []Line{{2, []string{"a"}}}},
		{"\t\na", []Line{{2, []string{"a"}}}},
		{" \t \t\n\t \n  \na", []Line{{4, []string{"a"}}}},
		{"#\na", []Line{{2, []string{"a"}}}},
		{"# x y\n#x\n\t # z\na", []Line{{4, []string{"a"}}}},
		// Lines that have no words alone.
		{" ", nil},
		{"\t", nil},
		{" \t\n\t ", nil},
		{"#", nil},
		{"#a", nil},
		{"a#\n#a", []Line{{1, []string{"a"}}}},
		{"  # a", nil},
		// A remark ends with its line, and begins with its first mark.
		{"a # b # c\nd", []Line{{1, []string{"a"}}, {2, []string{"d"}}}},
		{"a#b#c d\ne#", []Line{{1, []string{"a"}}, {2, []string{"e"}}}},
		{"a##\n##b\nc", []Line{{1, []string{"a"}}, {3, []string{"c"}}}},
		{"# a\nb # c\n# d", []Line{{2, []string{"b"}}}},
		// A mark right behind a word, and inside what would be one.
		{"a#", []Line{{1, []string{"a"}}}},
		{"a# b", []Line{{1, []string{"a"}}}},
		{"a b#c d", []Line{{1, []string{"a", "b"}}}},
		{"a\t#\tb", []Line{{1, []string{"a"}}}},
		// Blanks of both kinds, ahead of words, between and behind them.
		{"  a", []Line{{1, []string{"a"}}}},
		{"\t\ta", []Line{{1, []string{"a"}}}},
		{" \ta\t b \t c  ", []Line{{1, []string{"a", "b", "c"}}}},
		{"a\tb c", []Line{{1, []string{"a", "b", "c"}}}},
		{"a  b\t\tc", []Line{{1, []string{"a", "b", "c"}}}},
		{"a \n b\t\n\tc", []Line{{1, []string{"a"}}, {2, []string{"b"}}, {3, []string{"c"}}}},
		// Words that are the same, and words of other bytes than a name's.
		{"a a\na", []Line{{1, []string{"a", "a"}}, {2, []string{"a"}}}},
		{"! ~ \"$%&'()*+,-./ 0:;<=>?@[\\]^_`{|}", []Line{{1, []string{"!", "~", "\"$%&'()*+,-./", "0:;<=>?@[\\]^_`{|}"}}}},
	} {
		checkLines(t, x.s, x.want, api.OK)
	}
}

// TestLinesOfEachByte lays each byte at all places that count: alone, at both
// ends of a text, in a word, and behind a mark.
func TestLinesOfEachByte(t *testing.T) {
	for b := range 256 {
		c := string([]byte{byte(b)})
		may := b == 9 || b == 10 || b >= 32 && b <= 126
		for _, s := range []string{c, "a" + c, c + "a", "ab" + c + "cd", "a # " + c, "#" + c + "\nb", "a\n\n" + c + "\n", strings.Repeat("a ", 9999) + c + "b"} {
			want, wantE := wantLines(s)
			checkLines(t, s, want, wantE)
			if _, e := Lines(s); (e == api.OK) != may || !may && e != api.ErrForm {
				t.Errorf("Lines with the byte %d: %d", b, e)
			}
		}
	}
	checkLines(t, "a!b", []Line{{1, []string{"a!b"}}}, api.OK)
	checkLines(t, "a~b", []Line{{1, []string{"a~b"}}}, api.OK)
}

func TestLinesWithAWrongByteWhereverItStands(t *testing.T) {
	const text = "account  cash\tasset # money, or\n# nothing\n   \nflow F1 move#x\n\n"
	for _, wrong := range []string{"\x00", "\x08", "\x0b", "\x0c", "\r", "\x1f", "\x7f", "\x80", "\x85", "\xa0", "\xff", "é", "\u00a0", "\u2028", "\u3000"} {
		for at := range len(text) + 1 {
			checkLines(t, text[:at]+wrong+text[at:], nil, api.ErrForm)
		}
	}
}

func TestLinesOfAsManyBytesAsThereMayBe(t *testing.T) {
	long := strings.Repeat("a", 20000)
	checkLines(t, long, []Line{{1, []string{long}}}, api.OK)
	checkLines(t, long+"a", nil, api.ErrBig)
	checkLines(t, long+"\n", nil, api.ErrBig)
	checkLines(t, strings.Repeat(" ", 20000), nil, api.OK)
	checkLines(t, strings.Repeat(" ", 20001), nil, api.ErrBig)
	checkLines(t, strings.Repeat("\n", 20000), nil, api.OK)
	checkLines(t, strings.Repeat("\n", 20001), nil, api.ErrBig)
	checkLines(t, strings.Repeat("\n", 19999)+"a", []Line{{20000, []string{"a"}}}, api.OK)
	checkLines(t, "#"+strings.Repeat("a", 19999), nil, api.OK)
	checkLines(t, "#"+strings.Repeat("a", 20000), nil, api.ErrBig)
	words := slices.Repeat([]string{"a"}, 10000)
	checkLines(t, strings.Repeat("a ", 10000), []Line{{1, words}}, api.OK)
	for _, s := range []string{strings.Repeat("a\n", 10000), strings.Repeat("a#", 10000), strings.Repeat("\t#\n", 6666)} {
		want, _ := wantLines(s)
		checkLines(t, s, want, api.OK)
	}
}

// TestLinesWrongBothWays asks which error is told where both would hold.
func TestLinesWrongBothWays(t *testing.T) {
	checkLines(t, "\x00"+strings.Repeat("a", 19999), nil, api.ErrForm)
	checkLines(t, strings.Repeat("a", 19999)+"\x7f", nil, api.ErrForm)
	checkLines(t, "\x00"+strings.Repeat("a", 20000), nil, api.ErrBig)
	checkLines(t, strings.Repeat("a", 20000)+"\x7f", nil, api.ErrBig)
	checkLines(t, strings.Repeat("\xff", 20001), nil, api.ErrBig)
	checkLines(t, strings.Repeat("é", 10000), nil, api.ErrForm)
	checkLines(t, strings.Repeat("é", 10001), nil, api.ErrBig)
	checkLines(t, strings.Repeat("\x00", 1<<20), nil, api.ErrBig)
}

// TestLinesOfAll holds Lines against the words of P5.1: of all short texts of
// the bytes that matter, and of some by chance.
func TestLinesOfAll(t *testing.T) {
	const matter = "ab#\n \t\r"
	for length := range 6 {
		for number := range int(math.Pow(float64(len(matter)), float64(length))) {
			s := make([]byte, length)
			rest := number
			for i := range s {
				s[i] = matter[rest%len(matter)]
				rest /= len(matter)
			}
			want, wantE := wantLines(string(s))
			checkLines(t, string(s), want, wantE)
		}
	}
	// A fixed seed: the tests are to be the same each time.
	r := rand.New(rand.NewSource(1))
	for range 5000 {
		s := anyText(r)
		want, wantE := wantLines(s)
		checkLines(t, s, want, wantE)
	}
}

// anyText answers a text that is right, for the most part.
func anyText(r *rand.Rand) string {
	s := make([]byte, r.Intn(300))
	for i := range s {
		s[i] = "ab#\n \t"[r.Intn(6)]
		if r.Intn(3) == 0 {
			s[i] = byte(32 + r.Intn(95))
		}
	}
	if len(s) > 0 && r.Intn(10) == 0 {
		s[r.Intn(len(s))] = byte(r.Intn(256))
	}
	return string(s)
}

// TestLinesAreNew changes and lengthens what Lines answered: neither is seen in another line, or later.
func TestLinesAreNew(t *testing.T) {
	const text = "a b\nc d\ne"
	want := []Line{{1, []string{"a", "b"}}, {2, []string{"c", "d"}}, {3, []string{"e"}}}
	first, _ := Lines(text)
	_ = append(first[0].Words, "x", "y", "z")
	if !same(first, want) {
		t.Errorf("a longer line changed others: %v", first)
	}
	clear(first[1].Words)
	if !same(first[:1], want[:1]) || !same(first[2:], want[2:]) {
		t.Errorf("a line changed others: %v", first)
	}
	checkLines(t, text, want, api.OK)
}

// TestNumberedStops leaves off at each line of a text.
func TestNumberedStops(t *testing.T) {
	lines := []string{"a", "", "b c", ""}
	for last := range lines {
		var got []string
		for n, line := range numbered(strings.Join(lines, "\n")) {
			got = append(got, line)
			if n != len(got) {
				t.Errorf("line %d has the number %d", len(got), n)
			}
			if n == last+1 {
				break
			}
		}
		if !slices.Equal(got, lines[:last+1]) {
			t.Errorf("up to line %d: %q", last+1, got)
		}
	}
}

func TestName(t *testing.T) {
	for _, s := range []string{"a", "z", "A", "Z", "E1", "cash", "USD", "Z9._-", "a-", "a.", "a_", "a0", "a9", "abcdefghijkl", "A-----------", "z.0_9-Z.a_0-"} {
		if !Name(s) {
			t.Errorf("Name(%q) is false", s)
		}
	}
	for _, s := range []string{
		"", "abcdefghijklm", "A------------", strings.Repeat("a", 20000), // of 0 bytes, or of more than 12
		"0", "9", "9a", ".", ".a", "_", "_a", "-", "-a", "-1", // no letter first
		"a b", " a", "a ", "a\t", "a\n", "a#", "#a", "a/b", "a:b", "a@b", "a[b", "a`b", "a{b", "a,b", "a+b", "a\x00", "a\x7f",
		"é", "aé", "\xe9", "a\xe9", "a\xff", "ａ", "aａ", "a٣",
	} {
		if Name(s) {
			t.Errorf("Name(%q) is true", s)
		}
	}
}

// TestNameOfEachByte lays each byte at each place of names of each length.
func TestNameOfEachByte(t *testing.T) {
	for length := range 16 {
		for at := range length {
			for b := range 256 {
				s := bytes.Repeat([]byte("a"), length)
				s[at] = byte(b)
				if got, want := Name(string(s)), wantName(string(s)); got != want {
					t.Errorf("Name(%q) = %t", s, got)
				}
			}
		}
	}
	for first := range 256 {
		for second := range 256 {
			s := string([]byte{byte(first), byte(second)})
			if got, want := Name(s), wantName(s); got != want {
				t.Errorf("Name(%q) = %t", s, got)
			}
		}
	}
}

func TestJoin(t *testing.T) {
	for _, x := range []struct {
		l    []Line
		want string
	}{
		{nil, ""},
		{[]Line{}, ""},
		{[]Line{{1, []string{"a"}}}, "a\n"},
		{[]Line{{1, []string{"a", "b", "c"}}}, "a b c\n"},
		{[]Line{{1, []string{"account", "cash", "asset"}}, {4, []string{"flow", "F1", "move"}}}, "account cash asset\nflow F1 move\n"},
		// Numbers count nothing, in whatever order.
		{[]Line{{7, []string{"a"}}, {3, []string{"b"}}, {7, []string{"c"}}}, "a\nb\nc\n"},
		{[]Line{{0, []string{"a"}}, {-1, []string{"b"}}, {math.MaxInt, []string{"c"}}, {math.MinInt, []string{"d"}}}, "a\nb\nc\nd\n"},
		// Lines without words.
		{[]Line{{}}, "\n"},
		{[]Line{{1, nil}, {2, []string{}}}, "\n\n"},
		{[]Line{{1, nil}, {2, []string{"a"}}, {3, nil}, {4, []string{"b", "c"}}, {5, nil}}, "\na\n\nb c\n\n"},
		// Words that would not come back are written as they are.
		{[]Line{{1, []string{""}}}, "\n"},
		{[]Line{{1, []string{"", "a", "", ""}}}, " a  \n"},
		{[]Line{{1, []string{"a b", "#", "c\nd", "\t"}}}, "a b # c\nd \t\n"},
		{[]Line{{1, []string{"é", "\xff", "\x00"}}}, "é \xff \x00\n"},
	} {
		before := copied(x.l)
		if s := Join(x.l); s != x.want {
			t.Errorf("Join(%s) = %q; want %q", told(x.l), s, x.want)
		}
		if !same(x.l, before) {
			t.Errorf("Join changed %s to %s", told(before), told(x.l))
		}
	}
}

func TestJoinOfMoreThanAText(t *testing.T) {
	word := strings.Repeat("a", 3000)
	l := slices.Repeat([]Line{{1, []string{word, word}}}, 50)
	if s := Join(l); s != strings.Repeat(word+" "+word+"\n", 50) {
		t.Errorf("Join of %d lines has %d bytes", len(l), len(s))
	}
}

func TestPick(t *testing.T) {
	for _, x := range []struct {
		s    string
		l    []string
		want int
	}{
		{"asset", []string{"asset", "liability", "equity"}, 0},
		{"liability", []string{"asset", "liability", "equity"}, 1},
		{"equity", []string{"asset", "liability", "equity"}, 2},
		{"other", []string{"asset", "liability", "equity"}, -1},
		// No words.
		{"a", nil, -1},
		{"a", []string{}, -1},
		{"", nil, -1},
		// One that stands twice, and one that is empty.
		{"c", []string{"a", "c", "b", "c", "c"}, 1},
		{"a", []string{"a", "a"}, 0},
		{"", []string{"a", "", "b", ""}, 1},
		{"", []string{"a", "b"}, -1},
		{"b", []string{"", "b", ""}, 1},
		// All of a word counts, byte by byte.
		{"a", []string{"ab", "A", "a ", " a", "ba"}, -1},
		{"ab", []string{"a", "b", "abc", "ab"}, 3},
		{"é", []string{"e", "\xc3", "é"}, 2},
		{"\xff", []string{"\xfe", "\ufffd", "\xff"}, 2},
	} {
		before := slices.Clone(x.l)
		if n := Pick(x.s, x.l...); n != x.want {
			t.Errorf("Pick(%q, %q) = %d; want %d", x.s, x.l, n, x.want)
		}
		if !slices.Equal(x.l, before) {
			t.Errorf("Pick changed %q to %q", before, x.l)
		}
	}
	if Pick("b", "a", "b") != 1 || Pick("b") != -1 {
		t.Error("Pick of words one by one")
	}
}

// anyWord answers a word that comes back from its line.
func anyWord(r *rand.Rand) string {
	word := make([]byte, 1+r.Intn(1+r.Intn(20)))
	for i := range word {
		for word[i] == 0 || word[i] == '#' {
			word[i] = byte(33 + r.Intn(94))
		}
	}
	return string(word)
}

// TestBack asks P5.4: of each byte that a word may have, and of lines by chance.
func TestBack(t *testing.T) {
	var each []string
	for b := byte(33); b <= 126; b++ {
		if b != '#' {
			each = append(each, string([]byte{b}), string([]byte{'a', b, b}))
		}
	}
	checkBack(t, []Line{{1, each}})
	checkBack(t, []Line{{1, each}, {2, each[:1]}, {3, each[1:]}})
	longest := []Line{{1, []string{strings.Repeat("~", 19999)}}}
	checkLines(t, Join(longest), longest, api.OK)
	r := rand.New(rand.NewSource(2))
	for range 3000 {
		var l []Line
		for n := range r.Intn(12) {
			line := Line{N: n + 1}
			for range 1 + r.Intn(8) {
				line.Words = append(line.Words, anyWord(r))
			}
			l = append(l, line)
		}
		checkBack(t, l)
	}
}

func checkBack(t *testing.T, l []Line) {
	t.Helper()
	s := Join(l)
	checkLines(t, s, l, api.OK)
	// The same words come back if they are laid out otherwise.
	checkLines(t, "\t"+strings.ReplaceAll(strings.ReplaceAll(s, " ", "\t "), "\n", " # x # y\n\t"), l, api.OK)
}

// TestBackWithLinesWithoutWords asks that these leave out nothing but themselves.
func TestBackWithLinesWithoutWords(t *testing.T) {
	l := []Line{{9, nil}, {9, []string{"a", "b"}}, {9, nil}, {9, nil}, {9, []string{"c"}}, {9, nil}}
	checkLines(t, Join(l), []Line{{2, []string{"a", "b"}}, {5, []string{"c"}}}, api.OK)
}

// FuzzLines holds Lines against the words of P5.1, and what it answers against P5.4.
func FuzzLines(f *testing.F) {
	f.Add("a b # c\n\n d")
	f.Add("account  cash\tasset # money\n# nothing\n   \nflow F1 move#x\n\n")
	f.Add("a\r\nb")
	f.Fuzz(func(t *testing.T, s string) {
		want, wantE := wantLines(s)
		checkLines(t, s, want, wantE)
		for i := range want {
			want[i].N = i + 1
		}
		if text := Join(want); len(text) <= api.Text {
			checkLines(t, text, want, api.OK)
		}
		if Name(s) != wantName(s) {
			t.Errorf("Name(%q) = %t", s, Name(s))
		}
	})
}

package codec

import (
	"fmt"
	"math"
	"math/big"
	"math/rand"
	"regexp"
	"slices"
	"strconv"
	"strings"
	"testing"

	"comptroller/api"
	"comptroller/fact"
)

const (
	least    = math.MinInt64
	greatest = math.MaxInt64
	// longest is as long as a name may be.
	longest = "Abcdefghi.-_"
)

// key tells a key in short.
func key(entity, account, flow, partner string, mark int) fact.Key {
	return fact.Key{Entity: entity, Account: account, Flow: flow, Partner: partner, Mark: mark}
}

// one answers the cube of one fact.
func one(k fact.Key, amount int64) fact.Cube {
	return fact.Cube{{Key: k, Amount: amount}}
}

// usual is an ordinary cube.
func usual() fact.Cube {
	return fact.Cube{
		{Key: key("E1", "bank", "F00", "", fact.Told), Amount: 100},
		{Key: key("E1", "bank", "F20", "", fact.Told), Amount: -30},
		{Key: key("E1", "bank", "F20", "", fact.Book), Amount: 4},
		{Key: key("E1", "due", "F99", "E2", fact.Struck), Amount: least},
		{Key: key("E1", "due", "F99", "E2", fact.Parted), Amount: greatest},
		{Key: key("E2", "x.y_z-1", "F00", "E1", fact.Scaled), Amount: -1},
	}
}

// usualText is the text of usual.
const usualText = "cube 6\n" +
	"E1 bank F00 - 0 100\n" +
	"E1 bank F20 - 0 -30\n" +
	"E1 bank F20 - 1 4\n" +
	"E1 due F99 E2 3 -9223372036854775808\n" +
	"E1 due F99 E2 4 9223372036854775807\n" +
	"E2 x.y_z-1 F00 E1 2 -1\n"

// many answers the cube of n keys, and its text: of one mark behind the other, with and without partners.
func many(n int) (fact.Cube, string) {
	var c fact.Cube
	text := fmt.Sprintf("cube %d\n", n)
	for i := range n {
		k := key("E", "a"+strconv.Itoa(10000+i/10), "F", "", i%5)
		partner := "-"
		if i%10 >= 5 {
			k.Partner, partner = "P", "P"
		}
		c = append(c, fact.Fact{Key: k, Amount: int64(i + 1)})
		text += fmt.Sprintf("E %s F %s %d %d\n", k.Account, partner, k.Mark, i+1)
	}
	return c, text
}

// told answers a cube or a text so that each byte can be seen; only the beginning, if it is long.
func told(what any) string {
	s := fmt.Sprintf("%+q", fmt.Sprint(what))
	return s[:min(len(s), 600)]
}

const (
	nameForm   = `([A-Za-z][A-Za-z0-9._-]{0,11})`
	numberForm = `(0|-?[1-9][0-9]*)`
)

var (
	nameAlone = regexp.MustCompile(`\A` + nameForm + `\z`)
	cubeForm  = regexp.MustCompile(`\Acube (0|[1-9][0-9]{0,3})\n((?:[ -~]+\n)*)\z`)
	factForm  = regexp.MustCompile(`\A` + strings.Repeat(nameForm+` `, 3) + `(?:-|` + nameForm + `) ([0-4]) ` + numberForm + `\z`)
)

// wantBehind tells whether b stands behind a.
func wantBehind(a, b fact.Key) bool {
	for _, pair := range [][2]string{{a.Entity, b.Entity}, {a.Account, b.Account}, {a.Flow, b.Flow}, {a.Partner, b.Partner}} {
		if pair[0] != pair[1] {
			return pair[0] < pair[1]
		}
	}
	return a.Mark < b.Mark
}

// wantCube tells whether c is one, and has no more facts than there may be.
func wantCube(c fact.Cube) bool {
	for i, f := range c {
		if f.Amount == 0 || i > 0 && !wantBehind(c[i-1].Key, f.Key) {
			return false
		}
	}
	return len(c) <= 2000
}

// wantPrint answers what P10.1 asks of Print.
func wantPrint(c fact.Cube) (string, api.Errno) {
	if !wantCube(c) {
		return "", api.ErrArg
	}
	text := "cube " + strconv.Itoa(len(c)) + "\n"
	for _, f := range c {
		k := f.Key
		partner := k.Partner
		if partner == "" {
			partner = "x" // any name: it is asked below
		}
		for _, name := range []string{k.Entity, k.Account, k.Flow, partner} {
			if !nameAlone.MatchString(name) {
				return "", api.ErrArg
			}
		}
		if k.Mark < 0 || k.Mark > 4 {
			return "", api.ErrArg
		}
		if k.Partner == "" {
			partner = "-"
		}
		text += fmt.Sprintf("%s %s %s %s %d %d\n", k.Entity, k.Account, k.Flow, partner, k.Mark, f.Amount)
	}
	return text, api.OK
}

// wantParse answers what P10.2 asks of Parse, by the forms of a text and of its lines.
func wantParse(s string) (fact.Cube, api.Errno) {
	parts := cubeForm.FindStringSubmatch(s)
	if parts == nil {
		return nil, api.ErrForm
	}
	var c fact.Cube
	for line := range strings.Lines(parts[2]) {
		f := factForm.FindStringSubmatch(strings.TrimSuffix(line, "\n"))
		if f == nil {
			return nil, api.ErrForm
		}
		amount, _ := new(big.Int).SetString(f[6], 10)
		if !amount.IsInt64() {
			return nil, api.ErrForm
		}
		c = append(c, fact.Fact{Key: key(f[1], f[2], f[3], f[4], int(f[5][0]-'0')), Amount: amount.Int64()})
	}
	if !wantCube(c) || strconv.Itoa(len(c)) != parts[1] {
		return nil, api.ErrForm
	}
	return c, api.OK
}

func checkPrint(t *testing.T, c fact.Cube, want string, wantE api.Errno) {
	t.Helper()
	before := slices.Clone(c)
	s, e := Print(c)
	if s != want || e != wantE {
		t.Errorf("Print(%s) = %s, %d; want %s, %d", told(before), told(s), e, told(want), wantE)
	}
	if !slices.Equal(c, before) {
		t.Errorf("Print changed %s to %s", told(before), told(c))
	}
}

func checkParse(t *testing.T, s string, want fact.Cube, wantE api.Errno) {
	t.Helper()
	c, e := Parse(s)
	if !slices.Equal(c, want) || e != wantE {
		t.Errorf("Parse(%s) = %s, %d; want %s, %d", told(s), told(c), e, told(want), wantE)
	}
}

// checkBoth asks for the text of c, and for the cube of that text.
func checkBoth(t *testing.T, c fact.Cube, s string) {
	t.Helper()
	checkPrint(t, c, s, api.OK)
	checkParse(t, s, c, api.OK)
}

// checkNone asks for no text.
func checkNone(t *testing.T, c fact.Cube) {
	t.Helper()
	checkPrint(t, c, "", api.ErrArg)
}

// checkNoCube asks for no cube.
func checkNoCube(t *testing.T, texts ...string) {
	t.Helper()
	for _, s := range texts {
		checkParse(t, s, nil, api.ErrForm)
	}
}

func TestOrdinary(t *testing.T) {
	checkBoth(t, nil, "cube 0\n")
	checkBoth(t, fact.Cube{}, "cube 0\n")
	checkBoth(t, usual(), usualText)
	checkBoth(t, usual()[1:3], "cube 2\nE1 bank F20 - 0 -30\nE1 bank F20 - 1 4\n")
	for _, x := range []struct {
		k      fact.Key
		amount int64
		want   string
	}{
		{key("A", "a", "f", "", 0), 1, "cube 1\nA a f - 0 1\n"},
		{key("A", "a", "f", "", 0), -1, "cube 1\nA a f - 0 -1\n"},
		{key("A", "a", "f", "B", 0), 10, "cube 1\nA a f B 0 10\n"},
		// A partner may be whoever has a name.
		{key("A", "a", "f", "A", 1), 7, "cube 1\nA a f A 1 7\n"},
		{key("A", "a", "f", "a-", 2), 7, "cube 1\nA a f a- 2 7\n"},
		{key("cube", "cube", "cube", "cube", 3), 1000, "cube 1\ncube cube cube cube 3 1000\n"},
		{key("A", "a", "f", "", 4), 120, "cube 1\nA a f - 4 120\n"},
		// The greatest and the least amount, and those beside them.
		{key("A", "a", "f", "", 0), greatest, "cube 1\nA a f - 0 9223372036854775807\n"},
		{key("A", "a", "f", "", 0), greatest - 1, "cube 1\nA a f - 0 9223372036854775806\n"},
		{key("A", "a", "f", "", 0), least, "cube 1\nA a f - 0 -9223372036854775808\n"},
		{key("A", "a", "f", "", 0), least + 1, "cube 1\nA a f - 0 -9223372036854775807\n"},
		// Names as long as they may be, and the longest line of all.
		{key(longest, longest, longest, longest, 4), least, "cube 1\nAbcdefghi.-_ Abcdefghi.-_ Abcdefghi.-_ Abcdefghi.-_ 4 -9223372036854775808\n"},
		{key("z", "Z", "a", "A", 0), 5, "cube 1\nz Z a A 0 5\n"},
		{key("E0", "a9", "f.", "p_", 0), 5, "cube 1\nE0 a9 f. p_ 0 5\n"},
	} {
		checkBoth(t, one(x.k, x.amount), x.want)
	}
}

// setters are the parts of a key that are texts, each to be set.
func setters() []func(k *fact.Key, s string) {
	return []func(k *fact.Key, s string){
		func(k *fact.Key, s string) { k.Entity = s },
		func(k *fact.Key, s string) { k.Account = s },
		func(k *fact.Key, s string) { k.Flow = s },
		func(k *fact.Key, s string) { k.Partner = s },
	}
}

// noNames are texts that are no names.
func noNames() []string {
	return []string{"-", "--", "-A", "1", "1A", "_", "_A", ".", ".A", " ", " A", "A ", "A B", "A\tB", "A\n", "\nA", "A\r", "A#", "#", "A/B", "A,B", "A:B", "A\x00", "\x00", "A\x7f", "é", "Aé", "ÄA", "漢", "\xff", "A\xff", longest + "x", longest + longest, strings.Repeat("A", 20001)}
}

// TestPrintNames lays texts at each place of a key that is to have a name.
func TestPrintNames(t *testing.T) {
	for place, set := range setters() {
		with := func(s string) fact.Cube {
			c := one(key("A", "a", "f", "B", 1), 5)
			set(&c[0].Key, s)
			return c
		}
		line := func(s string) string {
			words := []string{"A", "a", "f", "B", "1", "5"}
			words[place] = s
			return "cube 1\n" + strings.Join(words, " ") + "\n"
		}
		for _, s := range []string{"A", "a", "b1", "Z.", "x_y-z", "cube", longest} {
			checkBoth(t, with(s), line(s))
		}
		for _, s := range noNames() {
			checkNone(t, with(s))
			if place < 3 || s != "-" {
				checkNoCube(t, line(s))
			}
		}
		// "" is a Partner alone, and is written otherwise.
		checkNoCube(t, line(""))
		if place < 3 {
			checkNone(t, with(""))
		} else {
			checkBoth(t, with(""), line("-"))
		}
		for b := range 256 {
			c := string([]byte{byte(b)})
			for _, s := range []string{c, c + "x", "x" + c, "x" + c + "y", "xxxxxxxxxxx" + c} {
				want, wantE := wantPrint(with(s))
				checkPrint(t, with(s), want, wantE)
				wantC, wantE := wantParse(line(s))
				checkParse(t, line(s), wantC, wantE)
			}
		}
	}
}

func TestPrintMarks(t *testing.T) {
	for mark := range 5 {
		checkBoth(t, one(key("A", "a", "f", "", mark), 5), fmt.Sprintf("cube 1\nA a f - %d 5\n", mark))
	}
	for _, mark := range []int{-1, 5, -2, 6, 10, -5, 256, 1 << 32, math.MinInt, math.MaxInt} {
		checkNone(t, one(key("A", "a", "f", "", mark), 5))
	}
}

// TestPrintNoCube asks for texts of what is no cube.
func TestPrintNoCube(t *testing.T) {
	a, b, c := key("A", "a", "f", "", 0), key("A", "a", "f", "", 1), key("A", "a", "f", "B", 0)
	for _, none := range []fact.Cube{
		// An amount of 0.
		one(a, 0),
		{{}},
		{{Key: a, Amount: 1}, {Key: b, Amount: 0}},
		{{Key: a, Amount: 0}, {Key: b, Amount: 1}},
		// A key twice.
		{{Key: a, Amount: 1}, {Key: a, Amount: 1}},
		{{Key: a, Amount: 1}, {Key: a, Amount: 2}},
		{{Key: a, Amount: 1}, {Key: b, Amount: 1}, {Key: b, Amount: -1}},
		// Keys that do not rise.
		{{Key: b, Amount: 1}, {Key: a, Amount: 1}},
		{{Key: c, Amount: 1}, {Key: b, Amount: 1}},
		{{Key: a, Amount: 1}, {Key: c, Amount: 1}, {Key: b, Amount: 1}},
		{{Key: b, Amount: 1}, {Key: a, Amount: 1}, {Key: c, Amount: 1}},
		{{Key: a, Amount: 1}, {Key: b, Amount: 1}, {Key: a, Amount: 1}},
		{{Key: key("a", "a", "f", "", 0), Amount: 1}, {Key: key("Z", "a", "f", "", 0), Amount: 1}},
		{{Key: key("A", "b", "f", "", 0), Amount: 1}, {Key: key("A", "B", "f", "", 0), Amount: 1}},
		{{Key: key("A", "a", "f2", "", 0), Amount: 1}, {Key: key("A", "a", "f10", "", 0), Amount: 1}},
		// Wrong in more ways than one.
		{{Key: key("", "", "", "-", 9), Amount: 0}, {Key: key("", "", "", "-", 9), Amount: 0}},
	} {
		checkNone(t, none)
	}
	checkBoth(t, fact.Cube{{Key: a, Amount: 1}, {Key: b, Amount: 1}, {Key: c, Amount: 1}}, "cube 3\nA a f - 0 1\nA a f - 1 1\nA a f B 0 1\n")
}

// TestPrintWrongAnywhere lays one wrong fact at the beginning, in between, and at the end.
func TestPrintWrongAnywhere(t *testing.T) {
	for at, f := range usual() {
		for _, k := range []fact.Key{
			key("", f.Key.Account, f.Key.Flow, f.Key.Partner, f.Key.Mark),
			key(f.Key.Entity, "", f.Key.Flow, f.Key.Partner, f.Key.Mark),
			key(f.Key.Entity, f.Key.Account+" ", f.Key.Flow, f.Key.Partner, f.Key.Mark),
			key(f.Key.Entity, f.Key.Account, f.Key.Flow+"#", f.Key.Partner, f.Key.Mark),
			key(f.Key.Entity, f.Key.Account, f.Key.Flow, "-", f.Key.Mark),
			key(f.Key.Entity, f.Key.Account, f.Key.Flow, f.Key.Partner, f.Key.Mark+5),
			key(f.Key.Entity, f.Key.Account, f.Key.Flow, f.Key.Partner, f.Key.Mark-5),
		} {
			c := usual()
			c[at].Key = k
			checkNone(t, c)
		}
		c := usual()
		c[at].Amount = 0
		checkNone(t, c)
	}
}

func TestMany(t *testing.T) {
	for _, n := range []int{9, 10, 11, 99, 100, 999, 1000, 1999, 2000} {
		c, s := many(n)
		checkBoth(t, c, s)
	}
	for _, n := range []int{2001, 2002, 3000, 10000} {
		c, s := many(n)
		checkNone(t, c)
		checkNoCube(t, s)
	}
	// 2001 of them are none even if the text counts 2000, or the other way round.
	_, most := many(2000)
	_, more := many(2001)
	checkNoCube(t, strings.Replace(more, "2001", "2000", 1), strings.Replace(most, "2000", "2001", 1))
}

// TestLongTexts asks for cubes of texts that are longer than other texts may be.
func TestLongTexts(t *testing.T) {
	var c fact.Cube
	s := "cube 2000\n"
	for i := range 2000 {
		name := "Abcdefgh" + strconv.Itoa(1000+i)
		c = append(c, fact.Fact{Key: key(name, name, name, name, 4), Amount: least + int64(i)})
		s += fmt.Sprintf("%s %s %s %s 4 %d\n", name, name, name, name, least+int64(i))
	}
	if len(s) < 7*api.Text {
		t.Fatalf("the test's own: %d bytes", len(s))
	}
	checkBoth(t, c, s)
	checkNoCube(t, s[:len(s)-1], s+"\n", s+"é\n", "\x00"+s, strings.Replace(s, " 4 ", " 5 ", 1), s[:len(s)-2]+"\xff\n")
	checkNoCube(t, s[:api.Text], strings.Repeat(" ", 100000), strings.Repeat("\n", 100000), strings.Repeat("a", 100000), "cube 1\n"+strings.Repeat(" ", 100000)+"\n", "cube 1\n"+strings.Repeat("a ", 100000)+"\n", "cube 100000\n"+strings.Repeat("A a f - 0 1\n", 100000), "cube "+strings.Repeat("9", 100000)+"\n")
}

func TestParseNoText(t *testing.T) {
	checkNoCube(t,
		"", "\n", "\n\n", " ", "-", "0", "0\n",
		// Without the last byte, with one more, with one in between, ahead.
		"cube 0", "cube 0\n\n", "cube 0\n ", "cube 0\nx", "\ncube 0\n", "cube 0\n\n\n",
		"cube 1\nA a f - 0 1", "cube 1\nA a f - 0 1\n\n", "cube 1\n\nA a f - 0 1\n", "\ncube 1\nA a f - 0 1\n",
		"cube 2\nA a f - 0 1\n\nB a f - 0 1\n", "cube 3\nA a f - 0 1\n\nB a f - 0 1\n", "cube 1 A a f - 0 1\n", "cube\n1\nA a f - 0 1\n", "cube 1\nA a f -\n0 1\n",
		// A wrong count.
		"cube 1\n", "cube 0\nA a f - 0 1\n", "cube 2\nA a f - 0 1\n", "cube 1\nA a f - 0 1\nB a f - 0 1\n", "cube 3\nA a f - 0 1\nB a f - 0 1\n",
		"cube -1\n", "cube -0\n", "cube +0\n", "cube 00\n", "cube 01\nA a f - 0 1\n", "cube +1\nA a f - 0 1\n", "cube -1\nA a f - 0 1\n", "cube 1.\nA a f - 0 1\n", "cube 0x1\nA a f - 0 1\n",
		"cube 9223372036854775808\n", "cube 18446744073709551616\n", "cube 18446744073709551617\nA a f - 0 1\n", "cube 4294967297\nA a f - 0 1\n", "cube 99999999999999999999999999\n", "cube 2001\n", "cube a\n", "cube -\n", "cube\n", "cube \n", "cube", "cube 0 0\n", "cube 1 1\nA a f - 0 1\n",
		// The first word.
		"Cube 0\n", "CUBE 0\n", "cubes 0\n", "cub 0\n", "kube 0\n", "0\n", " 0\n", "cube0\n", "package E1\n", "c ube 0\n", "cubé 0\n", "A a f - 0 1\n", "A a f - 0 1\ncube 1\n",
		// Blanks and other bytes between, ahead and behind, and remarks.
		"cube  0\n", " cube 0\n", "cube 0 \n", "cube\t0\n", "\tcube 0\n", "cube 0\t\n", "cube 0\r\n", "\rcube 0\n", "cube 0\n\r", "cube 0\n\t", "cube 0\n\x00", "cube 0\x00\n", "cube 0#\n", "cube 0 # none\n", "# a\ncube 0\n", "cube 0\n# a\n", "cube 0\n#",
	)
}

// TestParseLines asks for texts whose first line is right, but whose only other one is not.
func TestParseLines(t *testing.T) {
	checkParse(t, "cube 1\nA a f - 0 1\n", one(key("A", "a", "f", "", 0), 1), api.OK)
	for _, line := range []string{
		// Too few words, and too many.
		"", "A", "A a f", "A a f -", "A a f - 0", "A a f 0 1", "A a f - 1", "a f - 0 1", "A a f - 0 1 2", "A a f - 0 1 -", "A a f - 0 1 #", "A a f B - 0 1", "fact A a f - 0 1", "cube 0", "cube 1",
		// Blanks.
		" A a f - 0 1", "A a f - 0 1 ", "A  a f - 0 1", "A a  f - 0 1", "A a f  - 0 1", "A a f -  0 1", "A a f - 0  1", "A a f  0 1", "A a  - 0 1", "A  f - 0 1", " a f - 0 1", "A a f -  1", "A a f - 0 ", "     ", "      ",
		"\tA a f - 0 1", "A a f - 0 1\t", "A\ta f - 0 1", "A a\tf - 0 1", "A a f\t- 0 1", "A a f -\t0 1", "A a f - 0\t1", "A a f - 0 1\r", "\rA a f - 0 1", "A a f - 0\r1", "A a f - 0 1#", "A a f - 0 1 # x", "# A a f - 0 1",
		"A\va f - 0 1", "A\fa f - 0 1", "A a f - 0\u00a01", "A a f - 0\u30001",
		// Names.
		"9 a f - 0 1", "A 9 f - 0 1", "A a 9 - 0 1", "A a f 9 0 1", "- a f - 0 1", "A - f - 0 1", "A a - - 0 1", "A a f -- 0 1", "A a f -B 0 1", "A a f \"\" 0 1", "A a f . 0 1", "A a f B, 0 1",
		// Marks.
		"A a f - 5 1", "A a f - -1 1", "A a f - +1 1", "A a f - +0 1", "A a f - 01 1", "A a f - 00 1", "A a f - -0 1", "A a f - 1. 1", "A a f - 1e0 1", "A a f - 0x1 1", "A a f - x 1", "A a f - - 1", "A a f - Told 1", "A a f - 9 1", "A a f - 10 1", "A a f - 256 1", "A a f - 4294967296 1", "A a f - 4294967297 1", "A a f - 9223372036854775807 1", "A a f - 9223372036854775808 1", "A a f - 18446744073709551616 1", "A a f - -9223372036854775808 1",
		// Amounts.
		"A a f - 0 0", "A a f - 0 -0", "A a f - 0 +0", "A a f - 0 00", "A a f - 0 +1", "A a f - 0 01", "A a f - 0 -01", "A a f - 0 001", "A a f - 0 --1", "A a f - 0 1-", "A a f - 0 -", "A a f - 0 +", "A a f - 0 1.0", "A a f - 0 1,000", "A a f - 0 1_000", "A a f - 0 0x1", "A a f - 0 1e3", "A a f - 0 x", "A a f - 0 one", "A a f - 0 ½", "A a f - 0 ١",
		"A a f - 0 9223372036854775808", "A a f - 0 -9223372036854775809", "A a f - 0 18446744073709551617", "A a f - 0 99999999999999999999999", "A a f - 0 -99999999999999999999999",
		// Bytes that are not ASCII.
		"É a f - 0 1", "A ä f - 0 1", "A a ƒ - 0 1", "A a f – 0 1", "A a f é 0 1", "A a f - ０ 1", "A a f - 0 １", "A a f - 0 1é", "A\xff a f - 0 1", "A a f - 0 1\xff", "\ufeffA a f - 0 1", "A\u0301 a f - 0 1",
		// Wrong in more ways than one.
		"9 - # é 5 99999999999999999999999", "9 9 9 9 9 0 0",
	} {
		checkNoCube(t, "cube 1\n"+line+"\n", "cube 2\nA Z f - 0 1\n"+line+"\n", "cube 2\n"+line+"\nB a f - 0 1\n")
	}
}

// TestParseOrder asks for texts whose lines stand in all orders, and more than once.
func TestParseOrder(t *testing.T) {
	lines := []string{"A a f - 0 1\n", "A a f - 1 1\n", "A a f B 0 1\n", "A a g - 0 1\n", "A b f - 0 1\n", "B a f - 0 1\n"}
	for i, a := range lines {
		for j, b := range lines {
			s := "cube 2\n" + a + b
			if _, e := Parse(s); (e == api.OK) != (i < j) || i >= j && e != api.ErrForm {
				t.Errorf("Parse(%s): %d", told(s), e)
			}
			want, wantE := wantParse(s)
			checkParse(t, s, want, wantE)
			for _, c := range lines {
				s := "cube 3\n" + a + b + c
				want, wantE := wantParse(s)
				checkParse(t, s, want, wantE)
			}
		}
	}
	// A key twice is wrong whatever its amounts are; they are neither added nor left out.
	checkNoCube(t, "cube 2\nA a f - 0 1\nA a f - 0 2\n", "cube 1\nA a f - 0 1\nA a f - 0 2\n", "cube 0\nA a f - 0 1\nA a f - 0 -1\n", "cube 2\nA a f - 0 1\nA a f - 0 -1\n")
	// As bytes stand, not as people sort; "" stands ahead of all partners, though "-" does not need to.
	checkBoth(t, fact.Cube{{Key: key("A10", "a", "f", "", 4), Amount: 1}, {Key: key("A2", "a", "f", "", 0), Amount: 1}, {Key: key("Z", "a", "f", "", 0), Amount: 1}, {Key: key("a", "a", "f", "", 0), Amount: 1}}, "cube 4\nA10 a f - 4 1\nA2 a f - 0 1\nZ a f - 0 1\na a f - 0 1\n")
	checkNoCube(t, "cube 2\nA2 a f - 0 1\nA10 a f - 0 1\n", "cube 2\na a f - 0 1\nZ a f - 0 1\n")
	checkBoth(t, fact.Cube{{Key: key("A", "a", "f", "", 0), Amount: 1}, {Key: key("A", "a", "f", "A", 0), Amount: 1}, {Key: key("A", "a", "f-", "", 0), Amount: 1}, {Key: key("A", "a", "f.", "", 0), Amount: 1}}, "cube 4\nA a f - 0 1\nA a f A 0 1\nA a f- - 0 1\nA a f. - 0 1\n")
}

// TestParseEachByte lays each byte over each place of a text, and between, and leaves each out.
func TestParseEachByte(t *testing.T) {
	for at := range len(usualText) + 1 {
		head, rest := usualText[:at], usualText[at:]
		texts := []string{head}
		for b := range 256 {
			texts = append(texts, head+string([]byte{byte(b)})+rest)
			if rest != "" {
				texts = append(texts, head+string([]byte{byte(b)})+rest[1:])
			}
		}
		if rest != "" {
			texts = append(texts, head+rest[1:], rest)
		}
		for _, s := range texts {
			want, wantE := wantParse(s)
			checkParse(t, s, want, wantE)
			checkBack(t, s)
		}
	}
}

// checkBack asks for s again from the cube that it tells, if it does.
func checkBack(t *testing.T, s string) {
	t.Helper()
	if c, e := Parse(s); e == api.OK {
		checkPrint(t, c, s, api.OK)
	}
}

// TestParseShort holds Parse against the chapter's words, of all short texts of the pieces that matter.
func TestParseShort(t *testing.T) {
	pieces := []string{"cube", " ", "\n", "0", "1", "-", "A", "A a f - 0 1\n", "B b g A 4 -7\n"}
	all := []string{""}
	oks := 0
	for range 5 {
		var longer []string
		for _, s := range all {
			for _, piece := range pieces {
				longer = append(longer, s+piece)
			}
		}
		for _, s := range longer {
			want, wantE := wantParse(s)
			checkParse(t, s, want, wantE)
			if wantE == api.OK {
				oks++
			}
		}
		all = longer
	}
	if oks != 3 {
		t.Errorf("cubes of short texts: %d", oks)
	}
}

// anyCube answers a cube, for the most part: now and then something is wrong.
func anyCube(r *rand.Rand) fact.Cube {
	names := []string{"A", "B", "AA", "a", "a-", "a.b", "cube", longest}
	amounts := []int64{1, -1, 10, -10, 99, 1 << 40, greatest, least}
	var c fact.Cube
	for range r.Intn(12) {
		pick := func() string { return names[r.Intn(len(names))] }
		k := key(pick(), pick(), pick(), pick(), r.Intn(5))
		if r.Intn(2) == 0 {
			k.Partner = ""
		}
		c = append(c, fact.Fact{Key: k, Amount: amounts[r.Intn(len(amounts))]})
	}
	if r.Intn(20) > 0 {
		slices.SortFunc(c, func(x, y fact.Fact) int { return fact.Cmp(x.Key, y.Key) })
		c = slices.CompactFunc(c, func(x, y fact.Fact) bool { return x.Key == y.Key })
	}
	if len(c) > 0 && r.Intn(10) == 0 {
		spoil(r, &c[r.Intn(len(c))])
	}
	return c
}

// spoil makes a fact that may not be.
func spoil(r *rand.Rand, f *fact.Fact) {
	wrong := noNames()[r.Intn(len(noNames()))]
	switch r.Intn(4) {
	case 0:
		f.Amount = 0
	case 1:
		f.Key.Mark = []int{-1, 5, math.MinInt, math.MaxInt}[r.Intn(4)]
	default:
		setters()[r.Intn(4)](&f.Key, wrong)
	}
}

// TestBack asks for cubes from their texts, and for texts from their cubes; of unlike cubes for unlike texts.
func TestBack(t *testing.T) {
	r := rand.New(rand.NewSource(1))
	cubes := map[string]fact.Cube{}
	oks, none := 0, 0
	for range 20000 {
		c := anyCube(r)
		want, wantE := wantPrint(c)
		checkPrint(t, c, want, wantE)
		if wantE != api.OK {
			none++
			continue
		}
		oks++
		checkParse(t, want, c, api.OK)
		if other, is := cubes[want]; is && !slices.Equal(other, c) {
			t.Errorf("%s and %s have one text", told(other), told(c))
		}
		cubes[want] = c
	}
	if oks < 10000 || none < 1000 {
		t.Errorf("too few of one kind: %d, %d", oks, none)
	}
}

// TestUnlike asks for the texts of cubes that are unlike in one thing alone.
func TestUnlike(t *testing.T) {
	k := key("A", "a", "f", "B", 1)
	cubes := []fact.Cube{nil}
	for _, other := range []fact.Key{
		k, key("AA", "a", "f", "B", 1), key("A", "aa", "f", "B", 1), key("A", "a", "ff", "B", 1), key("A", "a", "f", "BB", 1), key("A", "a", "f", "", 1),
		key("a", "a", "f", "B", 1), key("A", "A", "f", "B", 1), key("A", "a", "F", "B", 1), key("A", "a", "f", "b", 1),
		key("A", "a", "f", "B", 0), key("A", "a", "f", "B", 2), key("A", "a", "f", "B", 3), key("A", "a", "f", "B", 4),
		// The same bytes, but cut otherwise.
		key("Aa", "f", "B", "", 1), key("A", "af", "B", "", 1), key("A", "a", "fB", "", 1),
	} {
		for _, amount := range []int64{1, -1, 2, 10, 11, greatest, least} {
			cubes = append(cubes, one(other, amount))
			if other != k {
				both, _ := fact.Of([]fact.Fact{{Key: k, Amount: 1}, {Key: other, Amount: amount}})
				cubes = append(cubes, both)
			}
		}
	}
	texts := map[string]int{}
	for i, c := range cubes {
		s, e := Print(c)
		if at, is := texts[s]; is || e != api.OK {
			t.Errorf("Print(%s) = %s, %d, as of %s", told(c), told(s), e, told(cubes[at]))
		}
		texts[s] = i
		checkParse(t, s, c, api.OK)
	}
}

// TestParseAnew changes and lengthens what Parse answered: none of it is seen later, or in another answer.
func TestParseAnew(t *testing.T) {
	a, _ := Parse(usualText)
	b, _ := Parse(usualText)
	_ = append(a[:2], fact.Fact{Key: key("x", "x", "x", "x", 9), Amount: 77})
	clear(a)
	if !slices.Equal(b, usual()) {
		t.Errorf("one answer changed another: %s", told(b))
	}
	checkBoth(t, usual(), usualText)
	// A text that was given up leaves nothing behind.
	checkNoCube(t, "cube 1\nA a f - 0 x\n")
	checkBoth(t, usual(), usualText)
}

func FuzzParse(f *testing.F) {
	for _, s := range []string{"", "cube 0\n", usualText, "cube 1\nA a f - 0 01\n", "cube 2\nB a f - 0 1\nA a f - 0 1\n", "cube 1\nA a f  0 1\n"} {
		f.Add(s)
	}
	f.Fuzz(func(t *testing.T, s string) {
		want, wantE := wantParse(s)
		checkParse(t, s, want, wantE)
		checkBack(t, s)
	})
}

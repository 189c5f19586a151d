package flow

import (
	"fmt"
	"math"
	"math/rand"
	"slices"
	"strings"
	"testing"

	"comptroller/api"
)

// kind is one of the kinds of flows, and the word that P7.1 gives it.
type kind struct {
	number int
	word   string
}

// kinds are all that there are; the numbers stand as DOC.md has them.
func kinds() []kind {
	return []kind{{0, "open"}, {1, "move"}, {2, "fx"}, {3, "scope"}, {4, "close"}}
}

// single are the kinds of which a list has one flow at most.
func single() []int {
	return []int{api.Open, api.Fx, api.Scope, api.Close}
}

// noKinds are numbers below and above those of the kinds.
func noKinds() []int {
	return []int{math.MinInt, -1 << 32, -2, -1, 5, 6, 1 << 32, 1<<32 + 1, math.MaxInt}
}

// names may be codes: of 1 and of 12 bytes, and some that are words of a line themselves.
func names() []string {
	return []string{"a", "Z", "F00", "a.b_c-9", "abcdefghijkl", "Z-----------", "flow", "open", "move", "fx", "scope", "close"}
}

// noNames are texts of 0, 1, 12 and 13 bytes, and others, that are no names.
func noNames() []string {
	return []string{"", "1", "-", ".", "_", " ", "#", "\x00", "1bcdefghijkl", "abcde fghijk", "abcdefghijk\n", "abcdefghijklm", "A123456789012", "1a", "a b", "a/b", "a#", "é", "aé", "\xff", strings.Repeat("a", 20000)}
}

// isName tells whether s is one of the names of these tests, or a short one of letters.
func isName(s string) bool {
	return slices.Contains(names(), s) || len(s) >= 1 && len(s) <= 12 && strings.Trim(s, "abcdefghijklmnopqrstuvwxyzABCDEFGHIJKLMNOPQRSTUVWXYZ") == ""
}

// wantParse answers what P7.1 asks of Parse.
func wantParse(words []string) (Flow, api.Errno) {
	for _, k := range kinds() {
		if len(words) == 3 && isName(words[1]) && slices.Equal(words, []string{"flow", words[1], k.word}) {
			return Flow{words[1], k.number}, api.OK
		}
	}
	return Flow{}, api.ErrForm
}

// told answers a flow, or words, or a code, so that each byte can be seen; only the beginning, if it is long.
func told(what any) string {
	s := fmt.Sprintf("%q", fmt.Sprintf("%+v", what))
	return s[:min(len(s), 200)]
}

func checkRight(t *testing.T, f Flow, want bool) {
	t.Helper()
	if is := Right(f); is != want {
		t.Errorf("Right(%s) = %t", told(f), is)
	}
}

func checkWords(t *testing.T, f Flow, want []string) {
	t.Helper()
	if words := Words(f); !slices.Equal(words, want) {
		t.Errorf("Words(%s) = %s; want %s", told(f), told(words), told(want))
	}
}

func checkParse(t *testing.T, words []string, want Flow, wantE api.Errno) {
	t.Helper()
	before := slices.Clone(words)
	if f, e := Parse(words); f != want || e != wantE {
		t.Errorf("Parse(%s) = %s, %d; want %s, %d", told(words), told(f), e, told(want), wantE)
	}
	if !slices.Equal(words, before) {
		t.Errorf("Parse changed %s to %s", told(before), told(words))
	}
}

// checkAdd asks for an answer, and that l is as it was, behind its end too.
func checkAdd(t *testing.T, l List, f Flow, want List, wantE api.Errno) {
	t.Helper()
	before := slices.Clone(l[:cap(l)])
	got, e := Add(l, f)
	if !slices.Equal(got, want) || e != wantE {
		t.Errorf("Add(%s, %s) = %s, %d; want %s, %d", told(l), told(f), told(got), e, told(want), wantE)
	}
	if !slices.Equal(l[:cap(l)], before) {
		t.Errorf("Add of %s changed the list that was handed in", told(f))
	}
	// The answer is new memory: what is done to it is not seen in l.
	for i := range got {
		got[i] = Flow{Code: "changed"}
	}
	_ = append(got, Flow{Code: "appended"})
	if !slices.Equal(l[:cap(l)], before) {
		t.Errorf("what Add of %s answered shares memory with the list", told(f))
	}
}

func checkKind(t *testing.T, l List, code string, want int, wantIs bool) {
	t.Helper()
	before := slices.Clone(l)
	if k, is := Kind(l, code); k != want || is != wantIs {
		t.Errorf("Kind(%s, %s) = %d, %t; want %d, %t", told(l), told(code), k, is, want, wantIs)
	}
	if !slices.Equal(l, before) {
		t.Errorf("Kind of %s changed the list", told(code))
	}
}

func checkOf(t *testing.T, l List, kind int, want ...string) {
	t.Helper()
	before := slices.Clone(l)
	codes := Of(l, kind)
	if !slices.Equal(codes, want) {
		t.Errorf("Of(%s, %d) = %s; want %s", told(l), kind, told(codes), told(want))
	}
	for i := range codes {
		codes[i] = "changed"
	}
	if !slices.Equal(l, before) {
		t.Errorf("Of %d changed the list", kind)
	}
}

func checkWhole(t *testing.T, l List, want bool) {
	t.Helper()
	before := slices.Clone(l)
	if is := Whole(l); is != want {
		t.Errorf("Whole(%s) = %t", told(l), is)
	}
	if !slices.Equal(l, before) {
		t.Errorf("Whole changed the list")
	}
}

// usual answers a list with a flow of each kind, and with three of Move.
func usual() List {
	return List{{"F00", api.Open}, {"F15", api.Move}, {"F20", api.Move}, {"F80", api.Fx}, {"F98", api.Scope}, {"F99", api.Close}, {"a", api.Move}}
}

// without answers a list that lacks all flows of kind.
func without(l List, kind int) List {
	return slices.DeleteFunc(slices.Clone(l), func(f Flow) bool { return f.Kind == kind })
}

// moves answers n flows of Move, by rising codes: M000, M002, M004 ..
func moves(n int) List {
	var l List
	for i := range n {
		l = append(l, Flow{fmt.Sprintf("M%03d", 2*i), api.Move})
	}
	return l
}

// numbered answers n flows as moves does, of which some in the midst, as far as
// there are as many, are the only ones of their kind.
func numbered(n int) List {
	l := moves(n)
	for i, kind := range []int{api.Close, api.Scope, api.Open, api.Fx} {
		if at := 3 * (i + 1); at < n {
			l[at].Kind = kind
		}
	}
	return l
}

func TestRight(t *testing.T) {
	for _, k := range kinds() {
		for _, s := range names() {
			checkRight(t, Flow{s, k.number}, true)
		}
		for _, s := range noNames() {
			checkRight(t, Flow{s, k.number}, false)
		}
	}
	for _, number := range noKinds() {
		for _, s := range append(names(), noNames()...) {
			checkRight(t, Flow{s, number}, false)
		}
	}
	checkRight(t, Flow{}, false)
}

func TestWords(t *testing.T) {
	for _, x := range []struct {
		f    Flow
		want string
	}{
		{Flow{"F00", api.Open}, "flow F00 open"},
		{Flow{"F20", api.Move}, "flow F20 move"},
		{Flow{"F80", api.Fx}, "flow F80 fx"},
		{Flow{"F98", api.Scope}, "flow F98 scope"},
		{Flow{"F99", api.Close}, "flow F99 close"},
		{Flow{"flow", api.Move}, "flow flow move"},
		{Flow{"open", api.Close}, "flow open close"},
		{Flow{"abcdefghijkl", api.Fx}, "flow abcdefghijkl fx"},
	} {
		checkWords(t, x.f, strings.Fields(x.want))
	}
}

// TestWordsOfNoFlow has a wrong code, a wrong kind, and both.
func TestWordsOfNoFlow(t *testing.T) {
	checkWords(t, Flow{}, nil)
	for _, s := range noNames() {
		for _, k := range kinds() {
			checkWords(t, Flow{s, k.number}, nil)
		}
		for _, number := range noKinds() {
			checkWords(t, Flow{s, number}, nil)
		}
	}
	for _, s := range names() {
		for _, number := range noKinds() {
			checkWords(t, Flow{s, number}, nil)
		}
	}
}

// TestWordsAreNew changes and lengthens what Words answered: it is not seen later.
func TestWordsAreNew(t *testing.T) {
	for _, k := range kinds() {
		words := Words(Flow{"a", k.number})
		for i := range words {
			words[i] = "changed"
		}
		_ = append(words, "appended")
		checkWords(t, Flow{"a", k.number}, []string{"flow", "a", k.word})
	}
}

func TestParse(t *testing.T) {
	for s, want := range map[string]Flow{
		"flow F00 open":  {"F00", api.Open},
		"flow F20 move":  {"F20", api.Move},
		"flow F80 fx":    {"F80", api.Fx},
		"flow F98 scope": {"F98", api.Scope},
		"flow F99 close": {"F99", api.Close},
		// Codes that are words of a line themselves.
		"flow flow open":   {"flow", api.Open},
		"flow close move":  {"close", api.Move},
		"flow scope scope": {"scope", api.Scope},
	} {
		checkParse(t, strings.Fields(s), want, api.OK)
	}
}

func TestParseNoFlow(t *testing.T) {
	for _, s := range []string{
		// None, and too few.
		"", "flow", "flow a", "flow open", "a open", "open", "a",
		// Too many.
		"flow a open x", "flow a open open", "flow a open close", "flow a b open", "flow flow a open", "flow a open flow a open",
		// Another order.
		"flow open a", "a flow open", "a open flow", "open flow a", "open a flow",
		// Another first word.
		"flux a open", "Flow a open", "FLOW a open", "flows a open", "flo a open", "account a open", "open a open", "a a open",
		// A kind that is none, or told otherwise.
		"flow a none", "flow a Open", "flow a MOVE", "flow a opens", "flow a ope", "flow a moves", "flow a f", "flow a fxs", "flow a scop", "flow a closed", "flow a closing", "flow a 0", "flow a 1", "flow a flow", "flow a a", "flow a asset",
		// Codes that are none.
		"flow 1 open", "flow - move", "flow abcdefghijklm fx", "flow a/b scope", "flow é close",
	} {
		checkParse(t, strings.Fields(s), Flow{}, api.ErrForm)
	}
	// Words that are empty, or have blanks in them.
	for _, words := range [][]string{
		nil, {}, {""}, {"", "", ""}, {"flow", "", "open"}, {"", "a", "open"}, {"flow", "a", ""}, {"flow", "a", "open", ""}, {"", "flow", "a", "open"}, {"flow a open"},
		{"flow", "a open"}, {"flow a", "open"}, {"flow ", "a", "open"}, {"flow", "a ", "open"}, {"flow", " a", "open"}, {"flow", "a", " open"}, {"flow", "a", "open\n"},
		slices.Repeat([]string{"flow", "a", "open"}, 10000), slices.Repeat([]string{""}, 10000),
	} {
		checkParse(t, words, Flow{}, api.ErrForm)
	}
}

// TestParseOfNames lays each name, and what is none, as a code beside each kind's word.
func TestParseOfNames(t *testing.T) {
	for _, k := range kinds() {
		for _, s := range names() {
			checkParse(t, []string{"flow", s, k.word}, Flow{s, k.number}, api.OK)
		}
		for _, s := range noNames() {
			checkParse(t, []string{"flow", s, k.word}, Flow{}, api.ErrForm)
		}
	}
}

// TestParseOfAll holds Parse against P7.1: all lists of up to 5 of the words that matter.
func TestParseOfAll(t *testing.T) {
	matter := []string{"flow", "open", "move", "fx", "scope", "close", "a", "Open", "1", ""}
	right := 0
	lists := [][]string{nil}
	for range 6 {
		var longer [][]string
		for _, words := range lists {
			want, wantE := wantParse(words)
			checkParse(t, words, want, wantE)
			if wantE == api.OK {
				right++
			}
			if len(words) == 5 {
				continue
			}
			for _, word := range matter {
				longer = append(longer, append(slices.Clone(words), word))
			}
		}
		lists = longer
	}
	// Eight of these words are names, and there are five kinds.
	if right != 8*5 {
		t.Errorf("%d of these lists are flows", right)
	}
}

// TestBackFromWords asks P7.5: a flow is its words' flow, and words are their flow's words.
func TestBackFromWords(t *testing.T) {
	for _, k := range kinds() {
		for _, code := range names() {
			f := Flow{code, k.number}
			checkParse(t, Words(f), f, api.OK)
			read, _ := Parse([]string{"flow", code, k.word})
			checkWords(t, read, []string{"flow", code, k.word})
		}
	}
}

func TestAdd(t *testing.T) {
	open, buy, end := Flow{"F00", api.Open}, Flow{"F20", api.Move}, Flow{"F99", api.Close}
	for _, x := range []struct {
		l    List
		f    Flow
		want List
	}{
		{nil, open, List{open}},
		{List{}, buy, List{buy}},
		// First, last, and in between.
		{List{buy, end}, open, List{open, buy, end}},
		{List{open, buy}, end, List{open, buy, end}},
		{List{open, end}, buy, List{open, buy, end}},
		{List{end}, open, List{open, end}},
		{List{open}, end, List{open, end}},
		// One more of Move, first, last and in between.
		{List{buy}, Flow{"F10", api.Move}, List{{"F10", api.Move}, buy}},
		{List{buy}, Flow{"F30", api.Move}, List{buy, {"F30", api.Move}}},
		{List{open, buy, end}, Flow{"F30", api.Move}, List{open, buy, {"F30", api.Move}, end}},
		// Kinds do not count for the order.
		{List{{"a", api.Close}, {"c", api.Open}}, Flow{"b", api.Scope}, List{{"a", api.Close}, {"b", api.Scope}, {"c", api.Open}}},
		{List{{"b", api.Open}}, Flow{"a", api.Close}, List{{"a", api.Close}, {"b", api.Open}}},
		// Room behind the end of the list is not the list's.
		{List{buy, end, open, end}[:2], open, List{open, buy, end}},
		{List{open, buy, end, end}[:2], end, List{open, buy, end}},
		{List{open, open}[:0], open, List{open}},
	} {
		checkAdd(t, x.l, x.f, x.want, api.OK)
	}
}

// TestAddOrdersAsTextsStand has codes that stand otherwise by their letters alone, or by their lengths.
func TestAddOrdersAsTextsStand(t *testing.T) {
	rising := []string{"A", "A-", "A.", "A1", "A10", "A2", "AB", "A_", "Aa", "B", "Z", "a", "a-b", "a.b", "aA", "a_b", "aa", "ab", "b"}
	var all List
	for _, code := range rising {
		all = append(all, Flow{code, api.Move})
	}
	for at, f := range all {
		rest := slices.Delete(slices.Clone(all), at, at+1)
		checkAdd(t, rest, f, all, api.OK)
	}
}

func TestAddOfNoFlow(t *testing.T) {
	l := usual()
	for _, s := range noNames() {
		for _, k := range kinds() {
			checkAdd(t, nil, Flow{s, k.number}, nil, api.ErrArg)
			checkAdd(t, l, Flow{s, k.number}, l, api.ErrArg)
		}
	}
	for _, number := range noKinds() {
		checkAdd(t, List{}, Flow{"x", number}, List{}, api.ErrArg)
		checkAdd(t, l, Flow{"x", number}, l, api.ErrArg)
		checkAdd(t, l, Flow{"", number}, l, api.ErrArg)
	}
	checkAdd(t, l, Flow{}, l, api.ErrArg)
}

// TestAddACodeTwice has a code that is there, at each place, of the same kind and of others.
func TestAddACodeTwice(t *testing.T) {
	for _, n := range []int{1, 2, 3, 59} {
		for _, l := range []List{moves(n), numbered(n)} {
			for _, f := range l {
				for _, k := range kinds() {
					checkAdd(t, l, Flow{f.Code, k.number}, l, api.ErrTwice)
				}
			}
		}
	}
}

// TestAddAKindTwice adds a second flow of each kind, ahead of the first one and behind it.
func TestAddAKindTwice(t *testing.T) {
	for _, kind := range single() {
		for _, l := range []List{{{"m", kind}}, {{"g", api.Move}, {"m", kind}}, {{"m", kind}, {"t", api.Move}}, usual()} {
			for _, code := range []string{"A", "b", "h", "n", "z"} {
				checkAdd(t, l, Flow{code, kind}, l, api.ErrTwice)
			}
		}
		// One of another kind is no second one.
		for _, other := range single() {
			if other != kind {
				checkAdd(t, List{{"m", kind}}, Flow{"n", other}, List{{"m", kind}, {"n", other}}, api.OK)
			}
		}
		checkAdd(t, List{{"m", kind}}, Flow{"b", api.Move}, List{{"b", api.Move}, {"m", kind}}, api.OK)
		checkAdd(t, List{{"m", api.Move}}, Flow{"b", kind}, List{{"b", kind}, {"m", api.Move}}, api.OK)
		lacks := without(usual(), kind)
		checkAdd(t, lacks, Flow{"z", kind}, append(slices.Clone(lacks), Flow{"z", kind}), api.OK)
	}
	checkAdd(t, usual(), Flow{"z", api.Move}, append(usual(), Flow{"z", api.Move}), api.OK)
	checkAdd(t, usual(), Flow{"F", api.Move}, slices.Insert(usual(), 0, Flow{"F", api.Move}), api.OK)
}

// TestAddToAFullList asks for 59 and for 60 flows, wherever one more would stand.
func TestAddToAFullList(t *testing.T) {
	for _, k := range kinds() {
		most, full := moves(59), moves(60)
		if k.number == api.Move {
			most, full = numbered(59), numbered(60)
		}
		for i := range 60 {
			// Ahead of M000, between each two, and behind all.
			f := Flow{fmt.Sprintf("M%03d", 2*i-1), k.number}
			if i == 0 {
				f.Code = "M"
			}
			checkAdd(t, most, f, slices.Insert(slices.Clone(most), i, f), api.OK)
			checkAdd(t, full, f, full, api.ErrBig)
		}
		last := Flow{"z", k.number}
		checkAdd(t, full, last, full, api.ErrBig)
		checkAdd(t, moves(75), last, moves(75), api.ErrBig)
	}
}

// TestAddWrongInSeveralWays asks which error is told where more than one would hold.
func TestAddWrongInSeveralWays(t *testing.T) {
	full := numbered(60)
	for _, f := range full {
		// The code is there, and the list is full.
		checkAdd(t, full, f, full, api.ErrTwice)
		checkAdd(t, full, Flow{f.Code, api.Move}, full, api.ErrTwice)
		// The kind is none, and the code is there.
		for _, number := range noKinds() {
			checkAdd(t, full, Flow{f.Code, number}, full, api.ErrArg)
			checkAdd(t, full[:30], Flow{f.Code, number}, full[:30], api.ErrArg)
		}
	}
	for _, kind := range single() {
		// The kind is there, and the list is full; the code is none beside.
		checkAdd(t, full, Flow{"z", kind}, full, api.ErrTwice)
		checkAdd(t, full, Flow{"1", kind}, full, api.ErrArg)
		checkAdd(t, usual(), Flow{"1", kind}, usual(), api.ErrArg)
		checkAdd(t, moves(60), Flow{"M000", kind}, moves(60), api.ErrTwice)
	}
	checkAdd(t, full, Flow{}, full, api.ErrArg)
	checkAdd(t, full, Flow{"1", api.Move}, full, api.ErrArg)
	checkAdd(t, full, Flow{"z", 5}, full, api.ErrArg)
}

// TestAddTwiceToOneList asks that two longer lists of one are not in each other's way.
func TestAddTwiceToOneList(t *testing.T) {
	l := slices.Grow(moves(3), 20)
	x, y := Flow{"x", api.Open}, Flow{"y", api.Move}
	first, _ := Add(l, x)
	second, _ := Add(l, y)
	if !slices.Equal(first, append(moves(3), x)) || !slices.Equal(second, append(moves(3), y)) {
		t.Errorf("two of one: %s and %s", told(first), told(second))
	}
}

func TestKind(t *testing.T) {
	for _, n := range []int{0, 1, 2, 3, 59, 60} {
		l := numbered(n)
		for i, f := range l {
			checkKind(t, l, f.Code, f.Kind, true)
			// Between each two, and behind all.
			checkKind(t, l, fmt.Sprintf("M%03d", 2*i+1), 0, false)
		}
		for _, s := range append(noNames(), "M", "M0", "m000", "M00", "M0000", "M000 ", "M1", "N", "z", "open", "move") {
			checkKind(t, l, s, 0, false)
		}
	}
	for code, want := range map[string]int{"F00": 0, "F15": 1, "F20": 1, "F80": 2, "F98": 3, "F99": 4, "a": 1} {
		checkKind(t, usual(), code, want, true)
	}
	// The place at which nothing was found has a flow of another kind than 0.
	checkKind(t, List{{"b", api.Close}}, "a", 0, false)
	checkKind(t, List{{"b", api.Close}}, "c", 0, false)
	checkKind(t, nil, "a", 0, false)
	checkKind(t, List{}, "", 0, false)
	checkKind(t, moves(3)[:2], "M004", 0, false)
}

func TestOf(t *testing.T) {
	checkOf(t, usual(), api.Open, "F00")
	checkOf(t, usual(), api.Move, "F15", "F20", "a")
	checkOf(t, usual(), api.Fx, "F80")
	checkOf(t, usual(), api.Scope, "F98")
	checkOf(t, usual(), api.Close, "F99")
	for _, k := range kinds() {
		checkOf(t, nil, k.number)
		checkOf(t, List{}, k.number)
		checkOf(t, without(usual(), k.number), k.number)
		checkOf(t, List{{"m", k.number}}, k.number, "m")
		for _, other := range kinds() {
			if other != k {
				checkOf(t, List{{"m", k.number}}, other.number)
			}
		}
	}
	for _, number := range noKinds() {
		checkOf(t, usual(), number)
		checkOf(t, nil, number)
	}
	for _, n := range []int{2, 59, 60} {
		var codes []string
		for i := range n {
			codes = append(codes, fmt.Sprintf("M%03d", 2*i))
		}
		checkOf(t, moves(n), api.Move, codes...)
		checkOf(t, moves(n), api.Open)
	}
	checkOf(t, usual()[:2], api.Move, "F15")
}

// TestOfAnswersNewLists asks that what is done to one answer is not seen in another.
func TestOfAnswersNewLists(t *testing.T) {
	l := usual()
	first, second := Of(l, api.Move), Of(l, api.Move)
	first[0] = "changed"
	_ = append(first[:1], "appended")
	if !slices.Equal(second, []string{"F15", "F20", "a"}) {
		t.Errorf("two answers of one list: %q", second)
	}
}

// TestWhole asks for each choice of kinds, and for Move with it and without.
func TestWhole(t *testing.T) {
	for choice := range 32 {
		var l List
		for i, k := range kinds() {
			if choice>>i&1 == 1 {
				// Falling numbers of kinds, by rising codes.
				l = slices.Insert(l, 0, Flow{string(rune('z' - i)), k.number})
			}
		}
		checkWhole(t, l, choice|2 == 31)
	}
	checkWhole(t, nil, false)
	checkWhole(t, List{}, false)
	checkWhole(t, usual(), true)
	checkWhole(t, without(usual(), api.Move), true)
	for _, kind := range single() {
		checkWhole(t, without(usual(), kind), false)
		checkWhole(t, without(numbered(60), kind), false)
		checkWhole(t, List{{"m", kind}}, false)
	}
	checkWhole(t, numbered(60), true)
	checkWhole(t, moves(4), false)
	checkWhole(t, moves(60), false)
	checkWhole(t, usual()[:5], false)
}

// TestAddedIsOfItsKind asks P7.5 of few flows in each order, and of many in some.
func TestAddedIsOfItsKind(t *testing.T) {
	few := List{{"B", api.Close}, {"Z-", api.Move}, {"a", api.Scope}, {"a.", api.Fx}, {"aa", api.Move}, {"b", api.Open}}
	eachOrder(few, func(order List) { checkAdded(t, order, few) })
	// A fixed seed: the tests are to be the same each time.
	r := rand.New(rand.NewSource(1))
	for range 50 {
		order := numbered(60)
		r.Shuffle(len(order), func(i, j int) { order[i], order[j] = order[j], order[i] })
		checkAdded(t, order, numbered(60))
	}
}

// eachOrder calls f with the flows of l in each order.
func eachOrder(l List, f func(order List)) {
	var put func(order, rest List)
	put = func(order, rest List) {
		if len(rest) == 0 {
			f(order)
		}
		for i, next := range rest {
			put(append(slices.Clone(order), next), slices.Delete(slices.Clone(rest), i, i+1))
		}
	}
	put(nil, l)
}

// checkAdded adds one by one, and asks for all of them each time.
func checkAdded(t *testing.T, order, want List) {
	t.Helper()
	var l List
	for i, f := range order {
		checkKind(t, l, f.Code, 0, false)
		longer, e := Add(l, f)
		if e != api.OK || len(longer) != i+1 {
			t.Fatalf("Add(%s, %s) = %s, %d", told(l), told(f), told(longer), e)
		}
		l = longer
		for _, added := range order[:i+1] {
			checkKind(t, l, added.Code, added.Kind, true)
			if !slices.Contains(Of(l, added.Kind), added.Code) {
				t.Errorf("Of(%s, %d) has not %s", told(l), added.Kind, added.Code)
			}
		}
		checkAdd(t, l, f, l, api.ErrTwice)
	}
	if !slices.Equal(l, want) {
		t.Errorf("in the order %s: %s", told(order), told(l))
	}
	for _, k := range kinds() {
		if codes := Of(l, k.number); !slices.IsSorted(codes) {
			t.Errorf("Of(%s, %d) = %s", told(l), k.number, told(codes))
		}
	}
	checkWhole(t, l, true)
}

// TestNoLists calls with flows that do not rise, or may not be, or are too
// many: nothing is asked but that the calls end, and change nothing.
func TestNoLists(t *testing.T) {
	r := rand.New(rand.NewSource(2))
	some := append(names(), noNames()...)
	for range 2000 {
		l := make(List, r.Intn(70))
		for i := range l {
			l[i] = Flow{some[r.Intn(len(some))], r.Intn(9) - 2}
		}
		before := slices.Clone(l)
		for _, s := range some {
			Kind(l, s)
			Add(l, Flow{s, r.Intn(9) - 2})
		}
		for number := range 9 {
			Of(l, number-2)
		}
		Whole(l)
		if !slices.Equal(l, before) {
			t.Fatalf("flows that are no list were changed")
		}
	}
}

// FuzzParse holds Parse against P7.1 and P7.5, by words that stand between single blanks.
func FuzzParse(f *testing.F) {
	for _, k := range kinds() {
		f.Add("flow F00 " + k.word)
	}
	f.Add("flow a open close")
	f.Add("flow  open ")
	f.Fuzz(func(t *testing.T, s string) {
		words := strings.Split(s, " ")
		got, e := Parse(words)
		if e == api.OK && (!Right(got) || !slices.Equal(Words(got), words)) {
			t.Errorf("Parse(%q) = %+v, whose words are %q", words, got, Words(got))
		}
		if e != api.OK && (e != api.ErrForm || got != Flow{}) {
			t.Errorf("Parse(%q) = %+v, %d", words, got, e)
		}
		if want, wantE := wantParse(words); wantE == api.OK && (got != want || e != api.OK) {
			t.Errorf("Parse(%q) = %+v, %d; want %+v", words, got, e, want)
		}
	})
}

package chart

import (
	"fmt"
	"math"
	"math/rand"
	"slices"
	"strings"
	"testing"

	"comptroller/api"
)

// kind is one of the eight shapes that an account may have, beside its names.
type kind struct {
	shape Account  // without a Code; its Fixed, if it has one, is any name
	words []string // of its class, and of its mark, if it has one
}

// kinds are all shapes that P6.1 leaves, each with the words that P6.2 gives it.
func kinds() []kind {
	return []kind{
		{Account{Class: api.Asset}, []string{"asset"}},
		{Account{Class: api.Asset, Cash: true}, []string{"asset", "cash"}},
		{Account{Class: api.Asset, Mutual: true}, []string{"asset", "mutual"}},
		{Account{Class: api.Asset, Fixed: "any"}, []string{"asset", "fixed"}},
		{Account{Class: api.Asset, Fixed: "any", Worn: true}, []string{"asset", "worn"}},
		{Account{Class: api.Liability}, []string{"liability"}},
		{Account{Class: api.Liability, Mutual: true}, []string{"liability", "mutual"}},
		{Account{Class: api.Equity}, []string{"equity"}},
	}
}

// of answers an account of this kind with these names; sort counts only if it has a Fixed.
func (k kind) of(code, sort string) Account {
	a := k.shape
	a.Code = code
	if a.Fixed != "" {
		a.Fixed = sort
	}
	return a
}

// line answers the words of an account of this kind with these names.
func (k kind) line(code, sort string) []string {
	words := append([]string{"account", code}, k.words...)
	if k.shape.Fixed != "" {
		words = append(words, sort)
	}
	return words
}

// names may be codes, and sorts of fixed assets: of 1 and of 12 bytes, and some
// that are words of a line themselves.
func names() []string {
	return []string{"a", "Z", "bank", "a.b_c-9", "abcdefghijkl", "Z-----------", "account", "asset", "equity", "cash", "mutual", "fixed", "worn", "any"}
}

// noNames are texts of 0, 1, 12 and 13 bytes, and others, that are no names.
func noNames() []string {
	return []string{"", "1", "-", ".", "_", " ", "#", "\x00", "1bcdefghijkl", "abcde fghijk", "abcdefghijk\n", "abcdefghijklm", "A123456789012", "1a", "a b", "a/b", "a#", "é", "aé", "\xff", strings.Repeat("a", 20000)}
}

// isName tells whether s is one of the names of these tests, or a short one of letters.
func isName(s string) bool {
	return slices.Contains(names(), s) || len(s) >= 1 && len(s) <= 12 && strings.Trim(s, "abcdefghijklmnopqrstuvwxyzABCDEFGHIJKLMNOPQRSTUVWXYZ") == ""
}

// classes are those that there are, and some below and above.
func classes() []int {
	return []int{math.MinInt, -1 << 32, -2, -1, 0, 1, 2, 3, 4, 5, 1 << 32, math.MaxInt}
}

// wantWords answers what P6.2 asks of Words, and whether P6.1 lets a be.
func wantWords(a Account) ([]string, bool) {
	for _, k := range kinds() {
		if isName(a.Code) && (k.shape.Fixed == "" || isName(a.Fixed)) && k.of(a.Code, a.Fixed) == a {
			return k.line(a.Code, a.Fixed), true
		}
	}
	return nil, false
}

// wantParse answers what P6.3 asks of Parse.
func wantParse(words []string) (Account, api.Errno) {
	if len(words) < 3 {
		return Account{}, api.ErrForm
	}
	code, sort := words[1], words[len(words)-1]
	for _, k := range kinds() {
		a := k.of(code, sort)
		if line, may := wantWords(a); may && slices.Equal(line, words) {
			return a, api.OK
		}
	}
	return Account{}, api.ErrForm
}

// eachShape calls f with each class and all marks beside each other; the names are given.
func eachShape(code, sort string, f func(a Account)) {
	either := []bool{false, true}
	for _, class := range classes() {
		for _, cash := range either {
			for _, mutual := range either {
				for _, worn := range either {
					f(Account{code, class, cash, mutual, sort, worn})
				}
			}
		}
	}
}

// told answers an account, or words, or a code, so that each byte can be seen; only the beginning, if it is long.
func told(what any) string {
	s := fmt.Sprintf("%q", fmt.Sprintf("%+v", what))
	return s[:min(len(s), 200)]
}

func checkRight(t *testing.T, a Account, want bool) {
	t.Helper()
	if is := Right(a); is != want {
		t.Errorf("Right(%s) = %t", told(a), is)
	}
}

func checkWords(t *testing.T, a Account, want []string) {
	t.Helper()
	if words := Words(a); !slices.Equal(words, want) {
		t.Errorf("Words(%s) = %s; want %s", told(a), told(words), told(want))
	}
}

func checkParse(t *testing.T, words []string, want Account, wantE api.Errno) {
	t.Helper()
	before := slices.Clone(words)
	if a, e := Parse(words); a != want || e != wantE {
		t.Errorf("Parse(%s) = %s, %d; want %s, %d", told(words), told(a), e, told(want), wantE)
	}
	if !slices.Equal(words, before) {
		t.Errorf("Parse changed %s to %s", told(before), told(words))
	}
}

// checkAdd asks for an answer, and that c is as it was, behind its end too.
func checkAdd(t *testing.T, c Chart, a Account, want Chart, wantE api.Errno) {
	t.Helper()
	before := slices.Clone(c[:cap(c)])
	got, e := Add(c, a)
	if !slices.Equal(got, want) || e != wantE {
		t.Errorf("Add(%s, %s) = %s, %d; want %s, %d", codes(c), told(a), codes(got), e, codes(want), wantE)
	}
	if !slices.Equal(c[:cap(c)], before) {
		t.Errorf("Add of %s changed the chart that was handed in", told(a))
	}
	// The answer is new memory: what is done to it is not seen in c.
	for i := range got {
		got[i] = Account{Code: "changed"}
	}
	_ = append(got, Account{Code: "appended"})
	if !slices.Equal(c[:cap(c)], before) {
		t.Errorf("what Add of %s answered shares memory with the chart", told(a))
	}
}

func checkFind(t *testing.T, c Chart, code string, want Account, wantIs bool) {
	t.Helper()
	before := slices.Clone(c)
	if a, is := Find(c, code); a != want || is != wantIs {
		t.Errorf("Find(%s, %s) = %s, %t; want %s, %t", codes(c), told(code), told(a), is, told(want), wantIs)
	}
	if !slices.Equal(c, before) {
		t.Errorf("Find of %s changed the chart", told(code))
	}
}

// codes answers the codes of a chart, in its order.
func codes(c Chart) string {
	var l []string
	for _, a := range c {
		l = append(l, a.Code)
	}
	return "(" + strings.Join(l, " ") + ")"
}

// numbered answers n accounts by rising codes, of all kinds: A000, A002, A004 ..
func numbered(n int) Chart {
	var c Chart
	for i := range n {
		c = append(c, kinds()[i%len(kinds())].of(fmt.Sprintf("A%03d", 2*i), "mach"))
	}
	return c
}

func TestRight(t *testing.T) {
	for _, a := range []Account{
		{Code: "bank", Cash: true},
		{Code: "claim", Mutual: true},
		{Code: "stock"},
		{Code: "plant", Fixed: "mach"},
		{Code: "lost", Fixed: "mach", Worn: true},
		{Code: "loan", Class: api.Liability},
		{Code: "debt", Class: api.Liability, Mutual: true},
		{Code: "cap", Class: api.Equity},
		{Code: "mach", Fixed: "mach"},
	} {
		checkRight(t, a, true)
	}
	for _, a := range []Account{
		{},
		{Class: api.Equity},
		{Code: "a", Class: -1},
		{Code: "a", Class: 3},
		{Code: "a", Class: api.Liability, Cash: true},
		{Code: "a", Class: api.Equity, Cash: true},
		{Code: "a", Class: api.Equity, Mutual: true},
		{Code: "a", Class: api.Liability, Fixed: "k"},
		{Code: "a", Class: api.Equity, Fixed: "k"},
		{Code: "a", Class: api.Liability, Fixed: "k", Worn: true},
		{Code: "a", Class: api.Equity, Fixed: "k", Worn: true},
		{Code: "a", Worn: true},
		{Code: "a", Class: api.Liability, Worn: true},
		{Code: "a", Class: api.Equity, Worn: true},
		{Code: "a", Cash: true, Worn: true},
		{Code: "a", Mutual: true, Worn: true},
		{Code: "a", Cash: true, Mutual: true},
		{Code: "a", Cash: true, Fixed: "k"},
		{Code: "a", Mutual: true, Fixed: "k"},
		{Code: "a", Mutual: true, Fixed: "k", Worn: true},
		{Code: "a", Class: api.Liability, Mutual: true, Fixed: "k"},
		{Code: "a", Fixed: "1"},
		{Code: "a", Fixed: " "},
		{Code: "a", Fixed: "1", Worn: true},
	} {
		checkRight(t, a, false)
		checkWords(t, a, nil)
	}
}

// TestRightOfNames lays each name, and what is none, as a Code and as a Fixed.
func TestRightOfNames(t *testing.T) {
	for _, k := range kinds() {
		for _, s := range names() {
			checkRight(t, k.of(s, "k"), true)
			checkRight(t, k.of("a", s), true)
			checkRight(t, k.of(s, s), true)
		}
		for _, s := range noNames() {
			checkRight(t, k.of(s, "k"), false)
			checkWords(t, k.of(s, "k"), nil)
			if k.shape.Fixed == "" {
				continue
			}
			// Of these kinds one without a Fixed is an asset, unless it is Worn.
			checkRight(t, k.of("a", s), s == "" && !k.shape.Worn)
		}
	}
}

// TestRightAndWordsOfAll goes through all marks beside each other, with all classes and names.
func TestRightAndWordsOfAll(t *testing.T) {
	some := append(names(), noNames()...)
	right := 0
	for _, code := range some {
		for _, sort := range some {
			eachShape(code, sort, func(a Account) {
				want, may := wantWords(a)
				checkRight(t, a, may)
				checkWords(t, a, want)
				if may {
					right++
				}
			})
		}
	}
	// By P6.1, of each code: six kinds without a Fixed, and two with each Fixed.
	if n := len(names()); right != n*(6+2*n) {
		t.Errorf("%d accounts may be", right)
	}
}

func TestWords(t *testing.T) {
	for _, x := range []struct {
		a    Account
		want string
	}{
		{Account{Code: "bank", Cash: true}, "account bank asset cash"},
		{Account{Code: "x"}, "account x asset"},
		{Account{Code: "claim", Mutual: true}, "account claim asset mutual"},
		{Account{Code: "plant", Fixed: "mach"}, "account plant asset fixed mach"},
		{Account{Code: "lost", Fixed: "mach", Worn: true}, "account lost asset worn mach"},
		{Account{Code: "owe", Class: api.Liability}, "account owe liability"},
		{Account{Code: "loan", Class: api.Liability, Mutual: true}, "account loan liability mutual"},
		{Account{Code: "cap", Class: api.Equity}, "account cap equity"},
		{Account{Code: "fixed", Fixed: "worn"}, "account fixed asset fixed worn"},
	} {
		checkWords(t, x.a, strings.Fields(x.want))
	}
}

// TestWordsAreNew changes and lengthens what Words answered: it is not seen later.
func TestWordsAreNew(t *testing.T) {
	for _, k := range kinds() {
		a, want := k.of("a", "k"), k.line("a", "k")
		words := Words(a)
		for i := range words {
			words[i] = "changed"
		}
		_ = append(words, "appended")
		checkWords(t, a, want)
	}
}

func TestParse(t *testing.T) {
	for s, want := range map[string]Account{
		"account bank asset cash":        {Code: "bank", Cash: true},
		"account x asset":                {Code: "x"},
		"account claim asset mutual":     {Code: "claim", Mutual: true},
		"account plant asset fixed mach": {Code: "plant", Fixed: "mach"},
		"account lost asset worn mach":   {Code: "lost", Fixed: "mach", Worn: true},
		"account owe liability":          {Code: "owe", Class: api.Liability},
		"account loan liability mutual":  {Code: "loan", Class: api.Liability, Mutual: true},
		"account cap equity":             {Code: "cap", Class: api.Equity},
		// Names that are words of a line themselves.
		"account account asset":           {Code: "account"},
		"account equity liability":        {Code: "equity", Class: api.Liability},
		"account cash asset cash":         {Code: "cash", Cash: true},
		"account fixed asset fixed fixed": {Code: "fixed", Fixed: "fixed"},
		"account a asset worn fixed":      {Code: "a", Fixed: "fixed", Worn: true},
		"account a asset fixed cash":      {Code: "a", Fixed: "cash"},
	} {
		checkParse(t, strings.Fields(s), want, api.OK)
	}
}

func TestParseNoAccount(t *testing.T) {
	for _, s := range []string{
		// None, and too few.
		"", "account", "account a", "asset", "account asset", "a asset", "account a cash", "account asset cash",
		"account a asset fixed", "account a asset worn", "account asset fixed k",
		// Too many.
		"account a asset x", "account a asset x y", "account a asset cash x", "account a asset cash x y", "account a asset mutual x",
		"account a asset fixed k x", "account a asset worn k x", "account a asset fixed k x y", "account a b asset", "account a liability x",
		"account a equity x", "account a asset a", "account a asset account a asset", "account a asset odd", "account a asset odd k",
		// Another order.
		"a account asset", "account asset a", "asset a account", "account a cash asset", "account cash a asset", "cash account a asset",
		"account a asset k fixed", "account a fixed k asset", "account a fixed asset k", "account fixed k a asset",
		// Another first word.
		"acc a asset", "Account a asset", "accounts a asset", "flow a asset", "entity a asset cash", "asset a asset", "cash a asset",
		// Another class, or one that is told otherwise.
		"account a money", "account a Asset", "account a assets", "account a ass", "account a 0", "account a 1 mutual", "account a account", "account a cash cash",
		"account a asset equity", "account a asset liability", "account a liability asset", "account a equity equity",
		// A mark that stands twice, or beside another one.
		"account a asset cash cash", "account a asset mutual mutual", "account a asset cash mutual", "account a asset mutual cash",
		"account a asset fixed k fixed k", "account a asset fixed k worn k", "account a asset worn k fixed k", "account a asset worn k worn k",
		"account a asset cash fixed k", "account a asset fixed k cash", "account a asset mutual fixed k", "account a asset fixed k mutual",
		"account a asset mutual worn k", "account a asset worn k cash", "account a asset worn fixed k", "account a asset fixed worn k", "account a liability mutual mutual",
		// A mark that the class may not have.
		"account a liability cash", "account a equity cash", "account a equity mutual", "account a liability fixed k", "account a equity fixed k",
		"account a liability worn k", "account a equity worn k", "account a liability worn", "account a equity fixed",
		// A mark that is told otherwise.
		"account a asset Cash", "account a asset cas", "account a asset cashs", "account a asset Mutual", "account a asset FIXED k", "account a asset Worn k", "account a asset cash k", "account a asset worn",
		// Names that are none.
		"account 1 asset", "account - asset cash", "account abcdefghijklm asset", "account a/b liability", "account é equity",
		"account a asset fixed 1", "account a asset worn -", "account a asset fixed abcdefghijklm", "account a asset worn 1k", "account 1 asset fixed k",
	} {
		checkParse(t, strings.Fields(s), Account{}, api.ErrForm)
	}
	// Words that are empty, or have blanks in them.
	for _, words := range [][]string{
		nil, {}, {""}, {"", "", ""}, {"account", "", "asset"}, {"", "a", "asset"}, {"account", "a", ""}, {"account", "a", "asset", ""},
		{"account", "a", "asset", "", ""}, {"account", "a", "asset", "fixed", ""}, {"account", "a", "asset", "worn", ""}, {"account", "a", "asset", "", "k"},
		{"account", "a", "asset", "cash", ""}, {"account", "a", "asset", "", "cash"}, {"account a asset"}, {"account", "a asset"}, {"account", "a", "asset cash"},
		{"account ", "a", "asset"}, {"account", "a ", "asset"}, {"account", "a", " asset"}, {"account", "a", "asset", "cash\n"}, {"account", "a", "asset", "fixed k"},
		slices.Repeat([]string{"account", "a", "asset"}, 10000), slices.Repeat([]string{""}, 10000),
	} {
		checkParse(t, words, Account{}, api.ErrForm)
	}
}

// TestParseOfNames lays each name, and what is none, as a code and behind "fixed" and "worn".
func TestParseOfNames(t *testing.T) {
	for _, k := range kinds() {
		for _, s := range names() {
			checkParse(t, k.line(s, "k"), k.of(s, "k"), api.OK)
			checkParse(t, k.line("a", s), k.of("a", s), api.OK)
		}
		for _, s := range noNames() {
			checkParse(t, k.line(s, "k"), Account{}, api.ErrForm)
			if k.shape.Fixed != "" {
				checkParse(t, k.line("a", s), Account{}, api.ErrForm)
			}
		}
	}
}

// TestParseOfAll holds Parse against P6.3: all lists of up to 5 of the words that matter.
func TestParseOfAll(t *testing.T) {
	matter := []string{"account", "asset", "liability", "equity", "cash", "mutual", "fixed", "worn", "a", "1", ""}
	right := 0
	lists := [][]string{nil}
	for range 6 {
		var longer [][]string
		for _, words := range lists {
			want, wantE := wantParse(words)
			checkParse(t, words, want, wantE)
			if wantE == api.OK {
				right++
			}
			if len(words) == 5 {
				continue
			}
			for _, word := range matter {
				longer = append(longer, append(slices.Clone(words), word))
			}
		}
		lists = longer
	}
	// Nine of these words are names.
	if right != 9*(6+2*9) {
		t.Errorf("%d of these lists are accounts", right)
	}
}

// TestParseOfChangedWords takes a word out of right ones, puts one in, lays
// another in its place, or two in each other's.
func TestParseOfChangedWords(t *testing.T) {
	check := func(words []string) {
		t.Helper()
		want, wantE := wantParse(words)
		checkParse(t, words, want, wantE)
	}
	for _, k := range kinds() {
		words := k.line("bank", "mach")
		for at := range len(words) + 1 {
			for _, other := range append(names(), "liability", "1", "") {
				check(slices.Insert(slices.Clone(words), at, other))
				if at < len(words) {
					changed := slices.Clone(words)
					changed[at] = other
					check(changed)
				}
			}
		}
		for at := range words {
			check(slices.Delete(slices.Clone(words), at, at+1))
			for with := range words {
				changed := slices.Clone(words)
				changed[at], changed[with] = changed[with], changed[at]
				check(changed)
			}
		}
	}
}

// TestBackFromWords asks P6.5: an account is its words' account, and words are their account's words.
func TestBackFromWords(t *testing.T) {
	for _, k := range kinds() {
		for _, code := range names() {
			for _, sort := range names() {
				a := k.of(code, sort)
				checkParse(t, Words(a), a, api.OK)
				read, _ := Parse(k.line(code, sort))
				checkWords(t, read, k.line(code, sort))
			}
		}
	}
}

func TestAdd(t *testing.T) {
	bank, debt, stock := Account{Code: "bank", Cash: true}, Account{Code: "debt", Class: api.Liability, Mutual: true}, Account{Code: "stock"}
	for _, x := range []struct {
		c    Chart
		a    Account
		want Chart
	}{
		{nil, bank, Chart{bank}},
		{Chart{}, bank, Chart{bank}},
		// First, last, and in between.
		{Chart{debt, stock}, bank, Chart{bank, debt, stock}},
		{Chart{bank, debt}, stock, Chart{bank, debt, stock}},
		{Chart{bank, stock}, debt, Chart{bank, debt, stock}},
		{Chart{stock}, bank, Chart{bank, stock}},
		{Chart{bank}, stock, Chart{bank, stock}},
		// Room behind the end of the chart is not the chart's.
		{Chart{debt, stock, stock, stock}[:2], bank, Chart{bank, debt, stock}},
		{Chart{bank, debt, debt, debt}[:2], stock, Chart{bank, debt, stock}},
		{Chart{bank, bank}[:0], debt, Chart{debt}},
	} {
		checkAdd(t, x.c, x.a, x.want, api.OK)
	}
}

// TestAddOrdersAsTextsStand has codes that stand otherwise by their letters alone, or by their lengths.
func TestAddOrdersAsTextsStand(t *testing.T) {
	rising := []string{"A", "A-", "A.", "A1", "A10", "A2", "AB", "A_", "Aa", "B", "Z", "a", "a-b", "a.b", "aA", "a_b", "aa", "ab", "b"}
	var all Chart
	for _, code := range rising {
		all = append(all, Account{Code: code})
	}
	for at := range all {
		rest := slices.Delete(slices.Clone(all), at, at+1)
		checkAdd(t, rest, all[at], all, api.OK)
	}
}

func TestAddErrors(t *testing.T) {
	full := numbered(60)
	for _, k := range kinds() {
		for _, s := range noNames() {
			checkAdd(t, nil, k.of(s, "k"), nil, api.ErrArg)
			checkAdd(t, full[:3], k.of(s, "k"), full[:3], api.ErrArg)
		}
	}
	for _, class := range []int{math.MinInt, -1, 3, math.MaxInt} {
		checkAdd(t, full[:3], Account{Code: "a", Class: class}, full[:3], api.ErrArg)
	}
	checkAdd(t, full[:3], Account{Code: "a", Worn: true}, full[:3], api.ErrArg)
	checkAdd(t, Chart{}, Account{}, Chart{}, api.ErrArg)
	// A code that is there, at each place, for the same account and for another one.
	for _, n := range []int{1, 2, 3, 59} {
		c := numbered(n)
		for _, a := range c {
			checkAdd(t, c, a, c, api.ErrTwice)
			for _, k := range kinds() {
				checkAdd(t, c, k.of(a.Code, "other"), c, api.ErrTwice)
			}
		}
	}
}

// TestAddToAFullChart asks for 59 and for 60 accounts, wherever one more would stand.
func TestAddToAFullChart(t *testing.T) {
	most, full := numbered(59), numbered(60)
	for i := range 60 {
		// Ahead of A000, between each two, and behind all.
		a := Account{Code: fmt.Sprintf("A%03d", 2*i-1), Class: api.Equity}
		if i == 0 {
			a.Code = "A"
		}
		checkAdd(t, most, a, slices.Insert(slices.Clone(most), i, a), api.OK)
		checkAdd(t, full, a, full, api.ErrBig)
	}
	last := Account{Code: "z"}
	checkAdd(t, most, last, append(slices.Clone(most), last), api.OK)
	checkAdd(t, full, last, full, api.ErrBig)
	checkAdd(t, numbered(75), last, numbered(75), api.ErrBig)
}

// TestAddWrongInSeveralWays asks which error is told where more than one would hold.
func TestAddWrongInSeveralWays(t *testing.T) {
	full := numbered(60)
	for _, a := range full {
		checkAdd(t, full, a, full, api.ErrTwice)
		checkAdd(t, full, Account{Code: a.Code, Class: api.Equity}, full, api.ErrTwice)
		checkAdd(t, full, Account{Code: a.Code, Class: 3}, full, api.ErrArg)
		checkAdd(t, full[:30], Account{Code: a.Code, Class: -1}, full[:30], api.ErrArg)
		checkAdd(t, full, Account{Code: a.Code, Cash: true, Mutual: true}, full, api.ErrArg)
	}
	checkAdd(t, full, Account{}, full, api.ErrArg)
	checkAdd(t, full, Account{Code: "1"}, full, api.ErrArg)
	checkAdd(t, full, Account{Code: "z", Fixed: "1"}, full, api.ErrArg)
}

// TestAddTwiceToOneChart asks that two longer charts of one are not in each other's way.
func TestAddTwiceToOneChart(t *testing.T) {
	c := slices.Grow(numbered(3), 20)
	x, y := Account{Code: "x"}, Account{Code: "y", Class: api.Equity}
	first, _ := Add(c, x)
	second, _ := Add(c, y)
	if !slices.Equal(first, append(numbered(3), x)) || !slices.Equal(second, append(numbered(3), y)) {
		t.Errorf("two of one: %s and %s", codes(first), codes(second))
	}
}

func TestFind(t *testing.T) {
	for _, n := range []int{0, 1, 2, 3, 59, 60} {
		c := numbered(n)
		for i, a := range c {
			checkFind(t, c, a.Code, a, true)
			// Between each two, and behind all.
			checkFind(t, c, fmt.Sprintf("A%03d", 2*i+1), Account{}, false)
		}
		for _, s := range append(noNames(), "A", "A0", "a000", "A00", "A0000", "A000 ", "A1", "B", "z") {
			checkFind(t, c, s, Account{}, false)
		}
	}
	checkFind(t, nil, "a", Account{}, false)
	checkFind(t, Chart{}, "", Account{}, false)
	checkFind(t, numbered(3)[:2], "A004", Account{}, false)
}

// TestAddedIsFound asks P6.5 of few accounts in each order, and of many in some.
func TestAddedIsFound(t *testing.T) {
	var few Chart
	for i, code := range []string{"B", "Z-", "a", "a.", "aa", "b"} {
		few = append(few, kinds()[i].of(code, "mach"))
	}
	eachOrder(few, func(order Chart) { checkAdded(t, order, few) })
	// A fixed seed: the tests are to be the same each time.
	r := rand.New(rand.NewSource(1))
	for range 50 {
		order := numbered(60)
		r.Shuffle(len(order), func(i, j int) { order[i], order[j] = order[j], order[i] })
		checkAdded(t, order, numbered(60))
	}
}

// eachOrder calls f with the accounts of c in each order.
func eachOrder(c Chart, f func(order Chart)) {
	var put func(order, rest Chart)
	put = func(order, rest Chart) {
		if len(rest) == 0 {
			f(order)
		}
		for i, a := range rest {
			put(append(slices.Clone(order), a), slices.Delete(slices.Clone(rest), i, i+1))
		}
	}
	put(nil, c)
}

// checkAdded adds one by one, and asks for all of them each time.
func checkAdded(t *testing.T, order, want Chart) {
	t.Helper()
	var c Chart
	for i, a := range order {
		checkFind(t, c, a.Code, Account{}, false)
		longer, e := Add(c, a)
		if e != api.OK || len(longer) != i+1 {
			t.Fatalf("Add(%s, %s) = %s, %d", codes(c), a.Code, codes(longer), e)
		}
		c = longer
		for _, added := range order[:i+1] {
			checkFind(t, c, added.Code, added, true)
		}
		checkAdd(t, c, a, c, api.ErrTwice)
	}
	if !slices.Equal(c, want) {
		t.Errorf("in the order %s: %s", codes(order), codes(c))
	}
}

// TestNoCharts calls with accounts that do not rise, or may not be: nothing is
// asked but that the calls end, and change nothing.
func TestNoCharts(t *testing.T) {
	r := rand.New(rand.NewSource(2))
	some := append(names(), noNames()...)
	for range 2000 {
		c := make(Chart, r.Intn(70))
		for i := range c {
			c[i] = Account{some[r.Intn(len(some))], r.Intn(7) - 2, r.Intn(2) == 0, r.Intn(2) == 0, some[r.Intn(len(some))], r.Intn(2) == 0}
		}
		before := slices.Clone(c)
		for _, s := range some {
			Find(c, s)
			Add(c, Account{Code: s})
		}
		if !slices.Equal(c, before) {
			t.Fatalf("a list that is no chart was changed")
		}
	}
}

// FuzzParse holds Parse against P6.3 and P6.5, by words that stand between single blanks.
func FuzzParse(f *testing.F) {
	for _, k := range kinds() {
		f.Add(strings.Join(k.line("bank", "mach"), " "))
	}
	f.Add("account a asset cash mutual")
	f.Add("account  asset fixed ")
	f.Fuzz(func(t *testing.T, s string) {
		words := strings.Split(s, " ")
		a, e := Parse(words)
		if e == api.OK && (!Right(a) || !slices.Equal(Words(a), words)) {
			t.Errorf("Parse(%q) = %+v, whose words are %q", words, a, Words(a))
		}
		if e != api.OK && (e != api.ErrForm || a != Account{}) {
			t.Errorf("Parse(%q) = %+v, %d", words, a, e)
		}
		if want, wantE := wantParse(words); wantE == api.OK && (a != want || e != api.OK) {
			t.Errorf("Parse(%q) = %+v, %d; want %+v", words, a, e, want)
		}
	})
}

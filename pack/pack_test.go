package pack

import (
	"fmt"
	"math"
	"math/big"
	"math/rand"
	"regexp"
	"slices"
	"sort"
	"strings"
	"testing"

	"comptroller/api"
	"comptroller/chart"
	"comptroller/fact"
	"comptroller/flow"
	"comptroller/unit"
)

const (
	least    = math.MinInt64
	greatest = math.MaxInt64
	// longest is as long as a name may be.
	longest = "Abcdefghi.-_"
)

// masterText is the text of ordinary master data.
const masterText = `group USD
account bank asset cash
account due asset mutual
account owe liability mutual
account loan liability
account cap equity
account dif asset
account plant asset fixed mach
account lost asset worn mach
account fact asset
flow F00 open
flow F15 move
flow F20 move
flow F80 fx
flow F98 scope
flow F99 close
entity A USD
entity B EUR
entity b CHF
entity Abcdefghi.-_ JPY
reserve cap
minor cap
differ dif
stake dif
`

// entities, accounts and flows are what masterText tells: of an account
// whether it is mutual, of a flow its kind's word.
var (
	entities = []string{"A", "B", "b", longest}
	accounts = map[string]bool{"bank": false, "due": true, "owe": true, "loan": false, "cap": false, "dif": false, "plant": false, "lost": false, "fact": false}
	flows    = map[string]string{"F00": "open", "F15": "move", "F20": "move", "F80": "fx", "F98": "scope", "F99": "close"}
)

// usualText is an ordinary text.
const usualText = `package A # the first one
fact bank F00 - 5
fact due F00 B 7
fact bank F00 - -2

package B
fact cap F20 - 1
fact owe F99 A -98
journal A
	fact bank F20 - 3
journal A
	fact bank F20 - 4
	fact due F00 B 1
journal b # of nothing
`

// usual answers what usualText comes to.
func usual() fact.Cube {
	return fact.Cube{
		{Key: key("A", "bank", "F00", "", 0), Amount: 3},
		{Key: key("A", "bank", "F20", "", 1), Amount: 7},
		{Key: key("A", "due", "F00", "B", 0), Amount: 7},
		{Key: key("A", "due", "F00", "B", 1), Amount: 1},
		{Key: key("B", "cap", "F20", "", 0), Amount: 1},
		{Key: key("B", "owe", "F99", "A", 0), Amount: -98},
	}
}

// key tells a key in short.
func key(entity, account, flow, partner string, mark int) fact.Key {
	return fact.Key{Entity: entity, Account: account, Flow: flow, Partner: partner, Mark: mark}
}

// one answers the cube of one fact.
func one(k fact.Key, amount int64) fact.Cube {
	return fact.Cube{{Key: k, Amount: amount}}
}

// usualMaster answers the master data of masterText.
func usualMaster(t testing.TB) unit.Master {
	t.Helper()
	return masterOf(t, masterText)
}

// masterOf answers the master data of a text, which has some.
func masterOf(t testing.TB, s string) unit.Master {
	t.Helper()
	m, e := unit.Parse(s)
	if e != api.OK {
		t.Fatalf("master data: %d", e)
	}
	return m
}

// same tells whether both are the same master data.
func same(a, b unit.Master) bool {
	return slices.Equal(a.Chart, b.Chart) && slices.Equal(a.Flows, b.Flows) && slices.Equal(a.Entities, b.Entities) && slices.Equal(a.Lines, b.Lines) &&
		a.Currency == b.Currency && a.Reserve == b.Reserve && a.Differ == b.Differ && a.Minor == b.Minor && a.Stake == b.Stake
}

// copied answers master data that share no list with m.
func copied(m unit.Master) unit.Master {
	m.Chart, m.Flows = slices.Clone(m.Chart), slices.Clone(m.Flows)
	m.Entities, m.Lines = slices.Clone(m.Entities), slices.Clone(m.Lines)
	return m
}

// told answers what it is given so that each byte can be seen; only the beginning, if it is long.
func told(what any) string {
	s := fmt.Sprintf("%q", fmt.Sprintf("%+v", what))
	return s[:min(len(s), 600)]
}

// noNames are words, or what a line takes for several, or for none, that are no names.
func noNames() []string {
	return []string{"", "1", "--", ".", "_", "1bcdefghijkl", "Abcdefghi.-_x", "1A", "-A", "A B", "A/B", "A,", "A:B", "#", "#A", "A\tB", "A\nB", "+1", "0", strings.Repeat("A", 5000)}
}

// strangers are names that masterText has for nothing, some of which are near to what it has.
func strangers() []string {
	return []string{"C", "a", "AA", "AB", "A.", "bb", "bbb", "Bank", "ban", "banks", "bank.", "DUE", "du", "f20", "F2", "F200", "F", "F0", "F97", "USD", "EUR", "mach", "group", "package", "journal", "entity", "Told", "Abcdefghi.-", "Abcdefghi.--", "abcdefghi.-_"}
}

// wantCheck answers what P11.1 asks of Check, with the master data of masterText.
func wantCheck(k fact.Key) api.Errno {
	mutual, isAccount := accounts[k.Account]
	kind, isFlow := flows[k.Flow]
	if !slices.Contains(entities, k.Entity) || !isAccount || !isFlow || k.Partner != "" && !slices.Contains(entities, k.Partner) {
		return api.ErrName
	}
	if k.Entity == k.Partner {
		return api.ErrArg
	}
	if mutual && k.Partner == "" || !mutual && k.Partner != "" {
		return api.ErrClass
	}
	if kind == "fx" {
		return api.ErrFlow
	}
	return api.OK
}

const nameForm = `([A-Za-z][A-Za-z0-9._-]{0,11})`

var (
	headForm   = regexp.MustCompile(`\A(package|journal) ` + nameForm + `\z`)
	factForm   = regexp.MustCompile(`\Afact ` + nameForm + ` ` + nameForm + ` (?:-|` + nameForm + `) ([^ ]+)\z`)
	amountForm = regexp.MustCompile(`\A(0|-?[1-9][0-9]*)\z`)
	wrongByte  = regexp.MustCompile(`[^\x09\x0a\x20-\x7e]`)
)

// wantParse answers what P11.2 asks of Parse, with the master data of masterText.
func wantParse(s string) (fact.Cube, api.Errno) {
	if len(s) > 20000 {
		return nil, api.ErrBig
	}
	if wrongByte.MatchString(s) {
		return nil, api.ErrForm
	}
	var facts []fact.Fact
	var ahead []string // the packages and journals, as their lines
	for _, line := range strings.Split(s, "\n") {
		said, _, _ := strings.Cut(line, "#")
		words := strings.Join(strings.Fields(said), " ")
		if words == "" {
			continue
		}
		if headForm.MatchString(words) {
			if e := wantHead(words, ahead); e != api.OK {
				return nil, e
			}
			ahead = append(ahead, words)
			continue
		}
		f, e := wantFact(words, ahead)
		if e != api.OK {
			return nil, e
		}
		facts = append(facts, f)
	}
	return wantCube(facts)
}

// wantHead answers the error of a package or journal behind others.
func wantHead(words string, ahead []string) api.Errno {
	part := headForm.FindStringSubmatch(words)
	if !slices.Contains(entities, part[2]) {
		return api.ErrName
	}
	if part[1] == "package" && slices.Contains(ahead, words) {
		return api.ErrTwice
	}
	return api.OK
}

// wantFact answers the fact of a line that is none of a package or a journal, behind these.
func wantFact(words string, ahead []string) (fact.Fact, api.Errno) {
	part := factForm.FindStringSubmatch(words)
	if part == nil || len(ahead) == 0 || !amountForm.MatchString(part[4]) {
		return fact.Fact{}, api.ErrForm
	}
	amount, _ := new(big.Int).SetString(part[4], 10)
	if !amount.IsInt64() {
		return fact.Fact{}, api.ErrOver
	}
	head := headForm.FindStringSubmatch(ahead[len(ahead)-1])
	k := key(head[2], part[1], part[2], part[3], map[string]int{"package": 0, "journal": 1}[head[1]])
	return fact.Fact{Key: k, Amount: amount.Int64()}, wantCheck(k)
}

// wantCube answers the cube of facts, by numbers of any size.
func wantCube(facts []fact.Fact) (fact.Cube, api.Errno) {
	sums := map[fact.Key]*big.Int{}
	for _, f := range facts {
		if sums[f.Key] == nil {
			sums[f.Key] = new(big.Int)
		}
		if !sums[f.Key].Add(sums[f.Key], big.NewInt(f.Amount)).IsInt64() {
			return nil, api.ErrOver
		}
	}
	var c fact.Cube
	for k, sum := range sums {
		if sum.Sign() != 0 {
			c = append(c, fact.Fact{Key: k, Amount: sum.Int64()})
		}
	}
	// A byte below all that a name may have: what stands ahead in a key counts first.
	told := func(k fact.Key) string {
		return strings.Join([]string{k.Entity, k.Account, k.Flow, k.Partner, fmt.Sprint(k.Mark)}, " ")
	}
	sort.Slice(c, func(i, j int) bool { return told(c[i].Key) < told(c[j].Key) })
	return c, api.OK
}

func checkCheck(t *testing.T, m unit.Master, f fact.Fact, want api.Errno) {
	t.Helper()
	before := copied(m)
	if e := Check(m, f); e != want {
		t.Errorf("Check(%s) = %d; want %d", told(f), e, want)
	}
	if !same(m, before) {
		t.Errorf("Check changed %s", told(before))
	}
}

// checkKey asks for want, whatever the amount and the mark are.
func checkKey(t *testing.T, m unit.Master, k fact.Key, want api.Errno) {
	t.Helper()
	for _, amount := range []int64{5, 0, -1, least, greatest} {
		for _, mark := range []int{fact.Told, fact.Book, fact.Parted, -1, 5, math.MinInt, math.MaxInt} {
			k.Mark = mark
			checkCheck(t, m, fact.Fact{Key: k, Amount: amount}, want)
		}
	}
}

// checkParse asks for a cube with the master data of masterText.
func checkParse(t *testing.T, s string, want fact.Cube, wantE api.Errno) {
	t.Helper()
	checkParseBy(t, usualMaster(t), s, want, wantE)
}

func checkParseBy(t *testing.T, m unit.Master, s string, want fact.Cube, wantE api.Errno) {
	t.Helper()
	before := copied(m)
	c, e := Parse(m, s)
	if !slices.Equal(c, want) || e != wantE {
		t.Errorf("Parse(%s) = %s, %d; want %s, %d", told(s), told(c), e, told(want), wantE)
	}
	if e == api.OK && !fact.Right(c) {
		t.Errorf("Parse(%s) = %s, which is no cube", told(s), told(c))
	}
	if !same(m, before) {
		t.Errorf("Parse changed %s", told(before))
	}
}

// checkErrors asks for an error of each of these texts, and for nothing beside.
func checkErrors(t *testing.T, wantE api.Errno, texts ...string) {
	t.Helper()
	for _, s := range texts {
		checkParse(t, s, nil, wantE)
	}
}

// checkRead asks for what wantParse answers, and answers its error.
func checkRead(t *testing.T, s string) api.Errno {
	t.Helper()
	want, wantE := wantParse(s)
	checkParse(t, s, want, wantE)
	return wantE
}

func TestCheck(t *testing.T) {
	m := usualMaster(t)
	for _, x := range []struct {
		k    fact.Key
		want api.Errno
	}{
		{key("A", "bank", "F20", "", 0), api.OK},
		{key("A", "due", "F20", "B", 0), api.OK},
		{key("B", "owe", "F20", "A", 0), api.OK},
		{key("b", "due", "F20", "B", 0), api.OK},
		{key(longest, "owe", "F15", "b", 0), api.OK},
		// A flow of each kind.
		{key("A", "cap", "F00", "", 0), api.OK},
		{key("A", "cap", "F15", "", 0), api.OK},
		{key("A", "cap", "F80", "", 0), api.ErrFlow},
		{key("A", "due", "F80", "B", 0), api.ErrFlow},
		{key("A", "cap", "F98", "", 0), api.OK},
		{key("A", "cap", "F99", "", 0), api.OK},
		// Each name unknown, and empty.
		{key("C", "bank", "F20", "", 0), api.ErrName},
		{key("", "bank", "F20", "", 0), api.ErrName},
		{key("A", "bink", "F20", "", 0), api.ErrName},
		{key("A", "", "F20", "", 0), api.ErrName},
		{key("A", "bank", "F21", "", 0), api.ErrName},
		{key("A", "bank", "", "", 0), api.ErrName},
		{key("A", "due", "F20", "C", 0), api.ErrName},
		{key("A", "due", "F20", "-", 0), api.ErrName},
		{key("", "", "", "", 0), api.ErrName},
		// A name of something else.
		{key("bank", "bank", "F20", "", 0), api.ErrName},
		{key("USD", "bank", "F20", "", 0), api.ErrName},
		{key("A", "A", "F20", "", 0), api.ErrName},
		{key("A", "F20", "F20", "", 0), api.ErrName},
		{key("A", "bank", "bank", "", 0), api.ErrName},
		{key("A", "due", "F20", "due", 0), api.ErrName},
		// The entity itself.
		{key("A", "due", "F20", "A", 0), api.ErrArg},
		{key("b", "owe", "F20", "b", 0), api.ErrArg},
		{key("C", "due", "F20", "C", 0), api.ErrName},
		{key("B", "due", "F20", "b", 0), api.OK},
		// Mutual with and without a partner, and the others.
		{key("A", "due", "F20", "", 0), api.ErrClass},
		{key("A", "owe", "F20", "", 0), api.ErrClass},
		{key("A", "bank", "F20", "B", 0), api.ErrClass},
		{key("A", "loan", "F20", "B", 0), api.ErrClass},
		{key("A", "cap", "F20", "B", 0), api.ErrClass},
		{key("A", "dif", "F20", "B", 0), api.ErrClass},
		{key("A", "plant", "F20", "B", 0), api.ErrClass},
		{key("A", "lost", "F20", "B", 0), api.ErrClass},
		{key("A", "plant", "F20", "", 0), api.OK},
		{key("A", "lost", "F20", "", 0), api.OK},
	} {
		checkKey(t, m, x.k, x.want)
	}
}

// TestCheckFirst has more wrong than one thing: the first one by the chapter's words counts.
func TestCheckFirst(t *testing.T) {
	m := usualMaster(t)
	for _, x := range []struct {
		k    fact.Key
		want api.Errno
	}{
		// A name, and the entity itself, the class, the flow.
		{key("A", "bink", "F20", "A", 0), api.ErrName},
		{key("A", "due", "F21", "A", 0), api.ErrName},
		{key("A", "due", "F21", "", 0), api.ErrName},
		{key("A", "bank", "F20", "C", 0), api.ErrName},
		{key("C", "due", "F20", "", 0), api.ErrName},
		{key("C", "bank", "F80", "", 0), api.ErrName},
		{key("A", "bink", "F80", "", 0), api.ErrName},
		{key("A", "due", "F80", "C", 0), api.ErrName},
		{key("C", "bank", "F80", "C", 0), api.ErrName},
		// The entity itself, and the class, the flow.
		{key("A", "bank", "F20", "A", 0), api.ErrArg},
		{key("A", "due", "F80", "A", 0), api.ErrArg},
		{key("A", "bank", "F80", "A", 0), api.ErrArg},
		// The class, and the flow.
		{key("A", "bank", "F80", "B", 0), api.ErrClass},
		{key("A", "due", "F80", "", 0), api.ErrClass},
	} {
		checkKey(t, m, x.k, x.want)
	}
}

// TestCheckAll holds Check against P11.1 for all names beside each other, known, strange and none.
func TestCheckAll(t *testing.T) {
	m := usualMaster(t)
	wrong := []string{"", "C", "-", " ", "A ", "é", "\xff"}
	some := func(known ...string) []string { return append(known, wrong...) }
	answers := map[api.Errno]int{}
	for _, entity := range some(entities...) {
		for _, partner := range some(entities...) {
			for _, account := range some("bank", "due", "owe", "cap", "plant", "A", "F20") {
				for _, flow := range some("F00", "F15", "F20", "F80", "F98", "F99", "A", "bank") {
					k := key(entity, account, flow, partner, len(answers))
					want := wantCheck(k)
					answers[want]++
					checkCheck(t, m, fact.Fact{Key: k, Amount: int64(len(answers))}, want)
				}
			}
		}
	}
	for _, e := range []api.Errno{api.OK, api.ErrName, api.ErrArg, api.ErrClass, api.ErrFlow} {
		if answers[e] == 0 {
			t.Errorf("error %d is never asked for", e)
		}
	}
}

// TestCheckStrangers lays what is no name that m has at each place of a key.
func TestCheckStrangers(t *testing.T) {
	m := usualMaster(t)
	for _, s := range slices.Concat(strangers(), noNames(), []string{"é", "A\x00", "\x00", "A\xff", " A", "bank ", "F20\n"}) {
		checkCheck(t, m, fact.Fact{Key: key(s, "due", "F20", "B", 0)}, api.ErrName)
		checkCheck(t, m, fact.Fact{Key: key("A", s, "F20", "B", 0)}, wantCheck(key("A", s, "F20", "B", 0)))
		checkCheck(t, m, fact.Fact{Key: key("A", "due", s, "B", 0)}, api.ErrName)
		checkCheck(t, m, fact.Fact{Key: key("A", "due", "F20", s, 0)}, wantCheck(key("A", "due", "F20", s, 0)))
		if _, is := accounts[s]; is {
			t.Errorf("%s is no stranger", told(s))
		}
	}
}

const smallText = "account e equity\naccount a asset\nflow o open\nflow x fx\nflow s scope\nflow c close\ngroup U\nreserve e\nminor e\ndiffer a\nstake a\n"

// TestOtherMasters has as little master data as there may be, and as much.
func TestOtherMasters(t *testing.T) {
	none := masterOf(t, smallText)
	checkKey(t, none, key("E1", "a", "o", "", 0), api.ErrName)
	checkKey(t, none, key("", "a", "o", "", 0), api.ErrName)
	checkParseBy(t, none, "# nobody\n", nil, api.OK)
	checkParseBy(t, none, "package E1\n", nil, api.ErrName)
	checkParseBy(t, none, "journal E1\n", nil, api.ErrName)
	checkParseBy(t, none, "fact a o - 1\n", nil, api.ErrForm)

	single := masterOf(t, smallText+"entity E1 USD\n")
	checkKey(t, single, key("E1", "a", "o", "", 0), api.OK)
	checkKey(t, single, key("E1", "a", "o", "E1", 0), api.ErrArg)
	checkParseBy(t, single, "package E1\nfact a o - 5\n", one(key("E1", "a", "o", "", 0), 5), api.OK)
	checkParseBy(t, single, "package E1\nfact a x - 5\n", nil, api.ErrFlow)

	s := smallText
	for i := range 60 {
		s += fmt.Sprintf("entity E%d U\n", i)
	}
	for i := range 58 {
		s += fmt.Sprintf("account a%d liability mutual\n", i)
	}
	for i := range 56 {
		s += fmt.Sprintf("flow f%d move\n", i)
	}
	most := masterOf(t, s)
	for i := range 60 {
		k := key(fmt.Sprintf("E%d", i), fmt.Sprintf("a%d", i%58), fmt.Sprintf("f%d", i%56), fmt.Sprintf("E%d", (i+59)%60), 1)
		checkKey(t, most, k, api.OK)
		k.Mark = 1
		checkParseBy(t, most, fmt.Sprintf("journal %s\nfact %s %s %s %d\n", k.Entity, k.Account, k.Flow, k.Partner, i+1), one(k, int64(i+1)), api.OK)
	}
	checkKey(t, most, key("E60", "a", "o", "", 0), api.ErrName)
	checkKey(t, most, key("E0", "a58", "o", "E1", 0), api.ErrName)
	checkKey(t, most, key("E0", "a0", "f56", "E1", 0), api.ErrName)
	checkKey(t, most, key("E0", "a0", "f0", "E60", 0), api.ErrName)
}

func TestParse(t *testing.T) {
	checkParse(t, usualText, usual(), api.OK)
	// The example of the chapter, here of A.
	checkParse(t, "package A\nfact bank F00 - 5", one(key("A", "bank", "F00", "", fact.Told), 5), api.OK)
	checkParse(t, "journal A\nfact bank F00 - 5", one(key("A", "bank", "F00", "", fact.Book), 5), api.OK)
	// Of each package and journal the facts behind it alone are its own.
	checkParse(t, "package A\njournal B\nfact cap F00 - 1\npackage b\njournal b\nfact cap F00 - 2\npackage B\nfact cap F00 - 3\n", fact.Cube{
		{Key: key("B", "cap", "F00", "", 0), Amount: 3},
		{Key: key("B", "cap", "F00", "", 1), Amount: 1},
		{Key: key("b", "cap", "F00", "", 1), Amount: 2},
	}, api.OK)
	// Words of the forms may be names.
	checkParse(t, "package A\nfact fact F20 - 7\n", one(key("A", "fact", "F20", "", 0), 7), api.OK)
	checkParse(t, "package Abcdefghi.-_\nfact due F20 A 7\njournal A\nfact due F20 Abcdefghi.-_ 8\n", fact.Cube{
		{Key: key("A", "due", "F20", longest, 1), Amount: 8},
		{Key: key(longest, "due", "F20", "A", 0), Amount: 7},
	}, api.OK)
}

// TestParseNothing has no line that tells a fact.
func TestParseNothing(t *testing.T) {
	for _, s := range []string{"", "\n", "\n\n", " ", "\t", "\t\n ", "#", "# package C\n", "#fact\n#package A\n#package A", strings.Repeat("\n", 20000), "package A\n", "package A\npackage B\n", "journal A\njournal A\n", "journal A\npackage A\n", "package A\n#fact bank F00 - 5\n"} {
		checkParse(t, s, nil, api.OK)
	}
}

// TestParseBlanks has remarks, blanks of both kinds, lines without words, and no end behind the last one.
func TestParseBlanks(t *testing.T) {
	checkParse(t, strings.TrimSuffix(usualText, "\n"), usual(), api.OK)
	checkParse(t, strings.ReplaceAll(strings.ReplaceAll(usualText, " ", " \t "), "\n", "\t\n\t "), usual(), api.OK)
	checkParse(t, strings.ReplaceAll(usualText, "\n", "\n\n \n# package A\n\t#fact\n"), usual(), api.OK)
	checkParse(t, "package A#B\nfact bank F00 - 5#6\n", one(key("A", "bank", "F00", "", 0), 5), api.OK)
	// What a remark leaves is what counts.
	checkErrors(t, api.ErrForm, "package #A\n", "package A\nfact bank F00 - #5\n", "package A\nfact bank F00 -# 5\n")
}

// TestParseNoText asks for the errors of the lines as such, which count ahead of what they tell.
func TestParseNoText(t *testing.T) {
	for _, wrong := range []string{"\x00", "\x01", "\x08", "\x0b", "\x0c", "\r", "\x1f", "\x7f", "\x80", "\xff", "é", "\u00a0"} {
		checkErrors(t, api.ErrForm, wrong, wrong+usualText, usualText+wrong, usualText+"# "+wrong, strings.Replace(usualText, "A", "A"+wrong, 1))
		checkErrors(t, api.ErrForm, "package C\n"+wrong, "package A\npackage A\n"+wrong, "package A\nfact bank F80 - 1\n"+wrong)
	}
	fill := func(s string, n int) string { return s + strings.Repeat("#", n-len(s)) }
	checkParse(t, fill(usualText, 20000), usual(), api.OK)
	checkErrors(t, api.ErrBig, fill(usualText, 20001), fill("", 20001), fill("package C\n", 20001), fill("fact\n\x00", 20001), strings.Repeat("\n", 20001), strings.Repeat(usualText, 1000))
	checkErrors(t, api.ErrName, fill("package C\n", 20000))
}

// TestParseMost has as many facts as a text may have.
func TestParseMost(t *testing.T) {
	s := "package A\n"
	for i := 1; len(s) < 19900; i++ {
		s += "fact cap F00 - 2\n"
		if i%3 == 0 {
			s += "fact due F99 B -1\n"
		}
	}
	n, of := int64(strings.Count(s, " cap ")), int64(strings.Count(s, " due "))
	checkParse(t, s, fact.Cube{{Key: key("A", "cap", "F00", "", 0), Amount: 2 * n}, {Key: key("A", "due", "F99", "B", 0), Amount: -of}}, api.OK)
	if n < 700 || of < 200 {
		t.Errorf("the test's own: %d and %d facts", n, of)
	}
}

// TestParseForms asks for texts with a line that has none of the forms, wherever it stands.
func TestParseForms(t *testing.T) {
	for _, line := range []string{
		// No word that counts.
		"parcel A", "Package A", "PACKAGE A", "packages A", "packag A", "package: A", "Journal A", "journals A", "Fact bank F00 - 1", "facts bank F00 - 1", "fakt bank F00 - 1", "entity A USD", "account bank asset", "A", "bank F00 - 1", "A bank F00 - 0 1", "cube 0", "-", "1", "package-A", "package, A",
		// One word less, and one more.
		"package", "package A B", "package A A", "package A -", "package A 1",
		"journal", "journal A B", "journal A A", "journal A 1", "journal package A",
		"fact", "fact bank", "fact bank F00", "fact bank F00 -", "fact bank F00 1", "fact F00 - 1", "fact bank - 1", "fact bank F00 - 1 2", "fact bank F00 - 1 -", "fact bank F00 - - 1", "fact A bank F00 - 1", "fact bank F00 - 1 0", "fact due F00 B B 1", "fact bank F00 - 0 1", "fact bank F00 - 1 000",
		"package fact bank F00 - 1", "journal A fact bank F00 - 1", "package bank F00 - 1", "fact A",
	} {
		checkErrors(t, api.ErrForm, line, line+"\n", usualText+line, line+"\n"+usualText, "package A\n"+line+"\npackage B\n", "journal B\n"+line)
	}
}

// TestParseNames lays what is no name, and what is one of nothing, at each place of each form.
func TestParseNames(t *testing.T) {
	forms := []string{"package %s\n", "journal %s\n", "fact %s F20 B 1\n", "fact due %s B 1\n", "fact due F20 %s 1\n"}
	for _, form := range forms {
		for _, s := range noNames() {
			text := "package A\n" + fmt.Sprintf(form, s)
			checkRead(t, text)
			if !strings.ContainsAny(s, " \t\n") && s != "" {
				checkErrors(t, api.ErrForm, text)
			}
		}
		for _, s := range strangers() {
			checkErrors(t, api.ErrName, "package A\n"+fmt.Sprintf(form, s))
		}
		for b := range 256 {
			for _, s := range []string{string([]byte{byte(b)}), "A" + string([]byte{byte(b)}), string([]byte{byte(b)}) + "A"} {
				checkRead(t, "package b\n"+fmt.Sprintf(form, s))
			}
		}
	}
	// "-" is a partner's alone, and once.
	checkErrors(t, api.ErrForm, "package -\n", "journal -\n", "package A\nfact - F20 - 1\n", "package A\nfact bank - - 1\n", "package A\nfact bank F20 -- 1\n", "package A\nfact due F20 -B 1\n", "package A\nfact due F20 \"\" 1\n")
}

// TestParseAhead has facts ahead of all packages and journals.
func TestParseAhead(t *testing.T) {
	checkErrors(t, api.ErrForm, "fact bank F00 - 1\n", "fact due F00 B 1\n", "fact bank F00 - 1\npackage A\n", "fact bank F00 - 0\njournal A\n", "\n# package A\nfact bank F00 - 1\npackage A\nfact bank F00 - 1\n")
	// That counts ahead of all else that is wrong with them.
	checkErrors(t, api.ErrForm, "fact bank F00 - 9223372036854775808\n", "fact bink F00 - 1\n", "fact bank F80 - 1\n", "fact due F00 - 1\n", "fact bank F00 - x\n")
	checkParse(t, "journal A\nfact bank F00 - 1\n", one(key("A", "bank", "F00", "", 1), 1), api.OK)
}

// TestParseTwice has packages and journals of one entity.
func TestParseTwice(t *testing.T) {
	for _, s := range []string{
		"package A\npackage A\n", "package A\npackage B\npackage A\n", "package A\njournal A\npackage A\n", "package A\njournal A\njournal A\njournal B\npackage A\n", "package A\nfact bank F00 - 1\npackage A\nfact bank F20 - 1\n", "package A\npackage B\npackage B\n", "journal A\npackage A\npackage A\n", "package A\npackage B\npackage b\npackage Abcdefghi.-_\npackage b\n",
	} {
		checkErrors(t, api.ErrTwice, s)
	}
	for _, s := range []string{"journal A\njournal A\n", "journal A\njournal B\njournal A\njournal A\n", "package A\njournal A\n", "journal A\npackage A\n", "package b\npackage B\n", "journal A\npackage A\njournal A\npackage B\njournal A\n"} {
		checkParse(t, s, nil, api.OK)
	}
	// Of nobody it is ErrName, though it stood before.
	checkErrors(t, api.ErrName, "package C\npackage C\n", "package A\npackage C\npackage A\n", "journal C\njournal C\n")
	// A fact of a package that stands twice is not asked.
	checkErrors(t, api.ErrTwice, "package A\npackage A\nfact bank F80 - 1\n", "package A\npackage A\nwrong\n")
}

// TestParsePartners asks Check's errors of facts.
func TestParsePartners(t *testing.T) {
	for line, want := range map[string]api.Errno{
		"fact due F20 B 1":   api.OK,
		"fact due F20 b 1":   api.OK,
		"fact due F20 A 1":   api.ErrArg,
		"fact due F20 - 1":   api.ErrClass,
		"fact due F20 C 1":   api.ErrName,
		"fact due F20 due 1": api.ErrName,
		"fact bank F20 - 1":  api.OK,
		"fact bank F20 B 1":  api.ErrClass,
		"fact bank F20 A 1":  api.ErrArg,
		"fact bank F20 C 1":  api.ErrName,
		"fact bank F80 - 1":  api.ErrFlow,
		"fact due F80 B 1":   api.ErrFlow,
		"fact bank F80 B 1":  api.ErrClass,
		"fact bank F80 A 1":  api.ErrArg,
		"fact bank F81 A 1":  api.ErrName,
		"fact bink F20 A 1":  api.ErrName,
		// A fact of 0 may be as wrong as another.
		"fact bank F80 - 0": api.ErrFlow,
		"fact due F20 - 0":  api.ErrClass,
		"fact bink F20 - 0": api.ErrName,
		"fact due F20 A 0":  api.ErrArg,
	} {
		for _, head := range []string{"package A\n", "journal A\n", "package B\njournal A\n", "journal A\nfact bank F15 - 3\npackage A\n"} {
			if e := checkRead(t, head+line); e != want {
				t.Errorf("the test's own: %s is %d", told(line), e)
			}
		}
	}
	// The same line may be right of one entity, and wrong of another.
	checkErrors(t, api.ErrArg, "package A\nfact due F20 B 1\npackage B\nfact due F20 B 1\n", "package B\njournal A\nfact due F20 A 1\n")
	checkParse(t, "package B\nfact due F20 A 1\njournal b\nfact due F20 A 2\n", fact.Cube{{Key: key("B", "due", "F20", "A", 0), Amount: 1}, {Key: key("b", "due", "F20", "A", 1), Amount: 2}}, api.OK)
}

func TestParseAmounts(t *testing.T) {
	for word, amount := range map[string]int64{"1": 1, "-1": -1, "10": 10, "-120": -120, "9223372036854775807": greatest, "9223372036854775806": greatest - 1, "-9223372036854775808": least, "-9223372036854775807": least + 1} {
		checkParse(t, "package A\nfact bank F20 - "+word+"\n", one(key("A", "bank", "F20", "", 0), amount), api.OK)
		checkParse(t, "journal B\nfact owe F20 A "+word, one(key("B", "owe", "F20", "A", 1), amount), api.OK)
	}
	checkParse(t, "package A\nfact bank F20 - 0\n", nil, api.OK)
	for _, word := range []string{"x", "-", "+", "--1", "+1", "-0", "+0", "00", "01", "-01", "1.", "1.0", ".5", "1,000", "1_000", "1e3", "0x1", "1-", "A", "B", "bank", "09223372036854775808", "-09223372036854775809", "99999999999999999999x"} {
		checkErrors(t, api.ErrForm, "package A\nfact bank F20 - "+word+"\n", "journal A\nfact due F20 B "+word)
		// Ahead of what Check tells.
		checkErrors(t, api.ErrForm, "package A\nfact bink F20 - "+word, "package A\nfact due F20 A "+word, "package A\nfact due F20 - "+word, "package A\nfact bank F80 - "+word)
	}
	for _, word := range []string{"9223372036854775808", "-9223372036854775809", "18446744073709551617", "-18446744073709551616", "99999999999999999999999999", "1" + strings.Repeat("0", 10000)} {
		checkErrors(t, api.ErrOver, "package A\nfact bank F20 - "+word+"\n", "journal A\nfact due F20 B "+word)
		checkErrors(t, api.ErrOver, "package A\nfact bink F20 - "+word, "package A\nfact due F21 B "+word, "package A\nfact due F20 C "+word, "package A\nfact due F20 A "+word, "package A\nfact due F20 - "+word, "package A\nfact bank F80 - "+word)
		// Behind the form.
		checkErrors(t, api.ErrForm, "package A\nfact 1 F20 - "+word, "package A\nfact bank 1 - "+word, "package A\nfact bank F20 1 "+word, "package A\nfact bank F20 - "+word+" 1")
	}
}

// TestParseSums has keys more than once.
func TestParseSums(t *testing.T) {
	bank := key("A", "bank", "F20", "", fact.Told)
	late := key("A", "bank", "F20", "", fact.Book)
	lines := func(words ...string) string {
		return "fact bank F20 - " + strings.Join(words, "\nfact bank F20 - ") + "\n"
	}
	// In a package, in a journal, in several journals, and in both.
	checkParse(t, "package A\n"+lines("1", "2", "4"), one(bank, 7), api.OK)
	checkParse(t, "journal A\n"+lines("1", "2", "4"), one(late, 7), api.OK)
	checkParse(t, "journal A\n"+lines("1", "2")+"journal B\njournal A\n"+lines("4"), one(late, 7), api.OK)
	checkParse(t, "journal A\n"+lines("1")+"package A\n"+lines("2")+"journal A\n"+lines("4"), fact.Cube{{Key: bank, Amount: 2}, {Key: late, Amount: 5}}, api.OK)
	// Keys that are alike but for one thing are several.
	checkParse(t, "package A\nfact due F20 B 1\nfact due F20 b 2\nfact due F15 B 4\nfact owe F20 B 8\njournal A\nfact due F20 B 16\npackage B\nfact due F20 b 32\n", fact.Cube{
		{Key: key("A", "due", "F15", "B", 0), Amount: 4},
		{Key: key("A", "due", "F20", "B", 0), Amount: 1},
		{Key: key("A", "due", "F20", "B", 1), Amount: 16},
		{Key: key("A", "due", "F20", "b", 0), Amount: 2},
		{Key: key("A", "owe", "F20", "B", 0), Amount: 8},
		{Key: key("B", "due", "F20", "b", 0), Amount: 32},
	}, api.OK)
	// Together 0; but not a package's with a journal's.
	checkParse(t, "package A\n"+lines("5", "-5"), nil, api.OK)
	checkParse(t, "journal A\n"+lines("5")+"journal A\n"+lines("-3", "-2"), nil, api.OK)
	checkParse(t, "package A\n"+lines("5", "-5", "0", "1"), one(bank, 1), api.OK)
	checkParse(t, "package A\n"+lines("5")+"journal A\n"+lines("-5"), fact.Cube{{Key: bank, Amount: 5}, {Key: late, Amount: -5}}, api.OK)
	// Together they do not fit, or do so on the way alone.
	const most, fewest = "9223372036854775807", "-9223372036854775808"
	checkErrors(t, api.ErrOver, "package A\n"+lines(most, "1"), "package A\n"+lines(fewest, "-1"), "package A\n"+lines(most, "1", "-1"), "package A\n"+lines("1", most), "journal A\n"+lines(most)+"package B\njournal A\n"+lines("1"), "journal A\n"+lines(most)+"journal A\n"+lines(most), "package A\n"+lines(fewest, fewest))
	checkParse(t, "package A\n"+lines(most, "-1", "1"), one(bank, greatest), api.OK)
	checkParse(t, "package A\n"+lines(most, fewest), one(bank, -1), api.OK)
	checkParse(t, "package A\n"+lines(most)+"journal A\n"+lines(most), fact.Cube{{Key: bank, Amount: greatest}, {Key: late, Amount: greatest}}, api.OK)
	checkParse(t, "package A\n"+lines(most)+"package B\n"+lines(most), fact.Cube{{Key: bank, Amount: greatest}, {Key: key("B", "bank", "F20", "", 0), Amount: greatest}}, api.OK)
	// Whatever a line tells counts ahead of that.
	over := "package A\n" + lines(most, "1")
	checkErrors(t, api.ErrForm, over+"wrong\n")
	checkErrors(t, api.ErrName, over+"package C\n", over+"fact bank F21 - 1\n")
	checkErrors(t, api.ErrTwice, over+"package A\n")
	checkErrors(t, api.ErrFlow, over+"fact bank F80 - 1\n")
}

// wrongLines are lines that are wrong behind "package A", each for a reason of its own, with their errors.
func wrongLines() []struct {
	line string
	e    api.Errno
} {
	return []struct {
		line string
		e    api.Errno
	}{
		{"wrong", api.ErrForm}, {"package 1", api.ErrForm}, {"journal", api.ErrForm}, {"fact bank F20 - x", api.ErrForm},
		{"package C", api.ErrName}, {"journal C", api.ErrName}, {"fact bink F20 - 1", api.ErrName},
		{"package A", api.ErrTwice}, {"fact bank F20 - 9223372036854775808", api.ErrOver},
		{"fact due F20 A 1", api.ErrArg}, {"fact due F20 - 1", api.ErrClass}, {"fact bank F80 - 1", api.ErrFlow},
	}
}

// TestParseFirst has two wrong lines: the first one counts, whatever the errors are.
func TestParseFirst(t *testing.T) {
	for _, first := range wrongLines() {
		for _, second := range wrongLines() {
			checkErrors(t, first.e, "package A\n"+first.line+"\n"+second.line+"\n", "package A\nfact bank F20 - 1\n"+first.line+"\nfact bank F20 - 1\n"+second.line)
		}
	}
}

// TestParseShort holds Parse against the chapter's words, of all short texts of the lines that matter.
func TestParseShort(t *testing.T) {
	lines := []string{"package A\n", "package B\n", "journal A\n", "journal C\n", "fact bank F20 - 5\n", "fact bank F20 - -5\n", "fact due F20 B 9223372036854775807\n", "fact due F80 B 1\n", "# none\n", "fact bank F20 -\n"}
	m := usualMaster(t)
	answers := map[api.Errno]int{}
	texts := []string{""}
	for range 4 {
		var longer []string
		for _, s := range texts {
			for _, line := range lines {
				longer = append(longer, s+line)
			}
		}
		for _, s := range longer {
			want, wantE := wantParse(s)
			answers[wantE]++
			if c, e := Parse(m, s); !slices.Equal(c, want) || e != wantE {
				t.Errorf("Parse(%s) = %s, %d; want %s, %d", told(s), told(c), e, told(want), wantE)
			}
		}
		texts = longer
	}
	for _, e := range []api.Errno{api.OK, api.ErrForm, api.ErrName, api.ErrTwice, api.ErrArg, api.ErrFlow, api.ErrOver} {
		if answers[e] == 0 {
			t.Errorf("error %d is never asked for", e)
		}
	}
}

// TestParseEachByte lays some bytes over each place of a text, and leaves each out.
func TestParseEachByte(t *testing.T) {
	for at := range len(usualText) {
		head, rest := usualText[:at], usualText[at+1:]
		checkRead(t, head)
		checkRead(t, head+rest)
		for _, b := range []byte("\x00\t\n\r #-019AaFb.\x7f\xff") {
			checkRead(t, head+string([]byte{b})+rest)
			checkRead(t, head+string([]byte{b})+usualText[at:])
		}
	}
}

// blocks answers a text's packages and journals, each with its lines, the first of which begins it.
func blocks(s string) [][]string {
	var l [][]string
	for line := range strings.Lines(s) {
		if word := strings.TrimSpace(line); strings.HasPrefix(word, "package") || strings.HasPrefix(word, "journal") {
			l = append(l, nil)
		}
		l[len(l)-1] = append(l[len(l)-1], line)
	}
	return l
}

// mixed answers a text's packages and journals in another order, and the lines within each, as r will have it.
func mixed(r *rand.Rand, s string) string {
	l := blocks(s)
	r.Shuffle(len(l), func(i, j int) { l[i], l[j] = l[j], l[i] })
	text := ""
	for _, lines := range l {
		rest := lines[1:]
		r.Shuffle(len(rest), func(i, j int) { rest[i], rest[j] = rest[j], rest[i] })
		text += strings.Join(lines, "")
	}
	return text
}

// anyText answers a text that is right.
func anyText(r *rand.Rand) string {
	s := ""
	var had []string
	for range r.Intn(7) {
		entity := entities[r.Intn(len(entities))]
		head := "package "
		if slices.Contains(had, entity) || r.Intn(2) == 0 {
			head = "journal "
		} else {
			had = append(had, entity)
		}
		s += head + entity + "\n"
		for range r.Intn(8) {
			flow := []string{"F00", "F15", "F20", "F98", "F99"}[r.Intn(5)]
			if partner := entities[r.Intn(len(entities))]; partner != entity {
				s += fmt.Sprintf("fact %s %s %s %d\n", []string{"due", "owe"}[r.Intn(2)], flow, partner, r.Intn(7)-3)
			}
			s += fmt.Sprintf("fact %s %s - %d\n", []string{"bank", "cap"}[r.Intn(2)], flow, r.Intn(7)-3)
		}
	}
	return s
}

// TestAnyOrder asks P11.3 of packages, journals, and lines within one, in all kinds of orders.
func TestAnyOrder(t *testing.T) {
	r := rand.New(rand.NewSource(1))
	for range 300 {
		checkParse(t, mixed(r, usualText), usual(), api.OK)
	}
	facts := 0
	for range 300 {
		s := anyText(r)
		want, e := Parse(usualMaster(t), s)
		if e != api.OK {
			t.Fatalf("Parse(%s): %d", told(s), e)
		}
		facts += len(want)
		checkRead(t, s)
		turned := blocks(s)
		slices.Reverse(turned)
		checkParse(t, strings.Join(slices.Concat(turned...), ""), want, api.OK)
		for range 10 {
			checkParse(t, mixed(r, s), want, api.OK)
		}
	}
	if facts < 1000 {
		t.Errorf("the test's own: %d facts", facts)
	}
}

// TestAnyCut asks P11.3 of a journal that is cut into several, and of all that are put into one.
func TestAnyCut(t *testing.T) {
	lines := []string{"fact bank F20 - 1\n", "fact due F20 B 2\n", "fact bank F20 - 4\n", "fact due F20 b 8\n", "fact bank F00 - -1\n"}
	want, e := Parse(usualMaster(t), "journal A\n"+strings.Join(lines, ""))
	if e != api.OK || len(want) != 4 {
		t.Fatalf("one journal: %s, %d", told(want), e)
	}
	for cuts := range 1 << len(lines) {
		s := "journal A\n"
		for i, line := range lines {
			if cuts>>i&1 == 1 {
				s += "journal A\n"
			}
			s += line
		}
		checkParse(t, s, want, api.OK)
	}
}

// TestParseAnew changes and lengthens what Parse answered: none of it is seen later, or in another answer.
func TestParseAnew(t *testing.T) {
	m := usualMaster(t)
	a, _ := Parse(m, usualText)
	b, _ := Parse(m, usualText)
	_ = append(a[:2], fact.Fact{Key: key("x", "x", "x", "x", 9), Amount: 77})
	clear(a)
	if !slices.Equal(b, usual()) {
		t.Errorf("one answer changed another: %s", told(b))
	}
	// A text that was wrong leaves nothing behind, nor does one that was right.
	checkParseBy(t, m, "package A\nfact bank F20 - 1\nwrong\n", nil, api.ErrForm)
	checkParseBy(t, m, "fact bank F20 - 1\n", nil, api.ErrForm)
	checkParseBy(t, m, usualText, usual(), api.OK)
	checkParseBy(t, m, usualText, usual(), api.OK)
}

// TestNoMasters calls with master data that no text tells: nothing is asked
// but that the calls end, change nothing, and answer the same again.
func TestNoMasters(t *testing.T) {
	r := rand.New(rand.NewSource(2))
	some := slices.Concat(strangers()[:6], noNames()[:8], []string{"A", "B", "b", "bank", "due", "F20", "F80", "F00"})
	any := func() string { return some[r.Intn(len(some))] }
	masters := []unit.Master{{}, {Entities: []unit.Entity{{Code: "A"}, {Code: "A"}}}, {Chart: usualMaster(t).Chart}, {Flows: usualMaster(t).Flows}}
	for range 1000 {
		m := unit.Master{Currency: any(), Reserve: any(), Differ: any(), Minor: any(), Stake: any()}
		for range r.Intn(9) {
			m.Chart = append(m.Chart, chart.Account{Code: any(), Class: r.Intn(6) - 2, Cash: r.Intn(2) == 0, Mutual: r.Intn(2) == 0, Fixed: any(), Worn: r.Intn(2) == 0})
			m.Flows = append(m.Flows, flow.Flow{Code: any(), Kind: r.Intn(9) - 2})
			m.Entities = append(m.Entities, unit.Entity{Code: any(), Currency: any()})
			m.Lines = append(m.Lines, unit.Line{Account: any(), Flow: any(), To: any()})
		}
		masters = append(masters, m)
	}
	for _, m := range masters {
		before := copied(m)
		for range 20 {
			f := fact.Fact{Key: key(any(), any(), any(), any(), r.Intn(9)-2), Amount: int64(r.Intn(3) - 1)}
			checkCheck(t, m, f, Check(m, f))
		}
		for _, s := range []string{"", usualText, anyText(r), "package " + any() + "\nfact " + any() + " " + any() + " " + any() + " 1\n"} {
			c, e := Parse(m, s)
			checkParseBy(t, m, s, c, e)
			if e != api.OK && len(c) != 0 {
				t.Errorf("Parse(%s) = %s beside %d", told(s), told(c), e)
			}
		}
		if !same(m, before) {
			t.Fatalf("what was handed in was changed: %s", told(before))
		}
	}
}

// FuzzParse holds Parse against P11.2, with the master data of masterText.
func FuzzParse(f *testing.F) {
	for _, s := range []string{"", usualText, "package A\npackage A\n", "fact bank F20 - 1\n", "journal B\nfact owe F99 A -9223372036854775808\nfact owe F99 A -1\n"} {
		f.Add(s)
	}
	for _, wrong := range wrongLines() {
		f.Add("package A\n" + wrong.line)
	}
	f.Fuzz(func(t *testing.T, s string) {
		checkRead(t, s)
	})
}

package unit

import (
	"fmt"
	"math/rand"
	"regexp"
	"slices"
	"sort"
	"strings"
	"testing"

	"comptroller/api"
	"comptroller/chart"
	"comptroller/flow"
)

// usualText is ordinary master data, in no order; it lacks a line for most flows of its accounts.
const usualText = `group USD
account plant asset fixed mach
account bank asset cash
account cap equity
account res equity
account min equity
account lost asset worn mach
account dif asset
account stk asset
account due asset mutual
account owe liability mutual
account loan liability
flow F99 close
flow F00 open
flow F20 move
flow F15 move
flow F80 fx
flow F98 scope
entity B EUR
entity A USD
entity b CHF
reserve res
minor min
differ dif
stake stk
map cap F20 Owners
map bank F80 Rates
map bank F20 In
map bank F15 In
`

// usual answers what usualText tells.
func usual() Master {
	return Master{
		Chart: chart.Chart{
			{Code: "bank", Class: api.Asset, Cash: true},
			{Code: "cap", Class: api.Equity},
			{Code: "dif", Class: api.Asset},
			{Code: "due", Class: api.Asset, Mutual: true},
			{Code: "loan", Class: api.Liability},
			{Code: "lost", Class: api.Asset, Fixed: "mach", Worn: true},
			{Code: "min", Class: api.Equity},
			{Code: "owe", Class: api.Liability, Mutual: true},
			{Code: "plant", Class: api.Asset, Fixed: "mach"},
			{Code: "res", Class: api.Equity},
			{Code: "stk", Class: api.Asset},
		},
		Flows: flow.List{
			{Code: "F00", Kind: api.Open},
			{Code: "F15", Kind: api.Move},
			{Code: "F20", Kind: api.Move},
			{Code: "F80", Kind: api.Fx},
			{Code: "F98", Kind: api.Scope},
			{Code: "F99", Kind: api.Close},
		},
		Entities: []Entity{{"A", "USD"}, {"B", "EUR"}, {"b", "CHF"}},
		Lines:    []Line{{"bank", "F15", "In"}, {"bank", "F20", "In"}, {"bank", "F80", "Rates"}, {"cap", "F20", "Owners"}},
		Currency: "USD",
		Reserve:  "res",
		Differ:   "dif",
		Minor:    "min",
		Stake:    "stk",
	}
}

// usualPrinted is usualText as P8.2 writes it.
const usualPrinted = `account bank asset cash
account cap equity
account dif asset
account due asset mutual
account loan liability
account lost asset worn mach
account min equity
account owe liability mutual
account plant asset fixed mach
account res equity
account stk asset
flow F00 open
flow F15 move
flow F20 move
flow F80 fx
flow F98 scope
flow F99 close
entity A USD
entity B EUR
entity b CHF
map bank F15 In
map bank F20 In
map bank F80 Rates
map cap F20 Owners
group USD
reserve res
differ dif
minor min
stake stk
`

// smallText is what no master data can do without.
const smallText = "account e equity\naccount a asset\nflow o open\nflow x fx\nflow s scope\nflow c close\ngroup U\nreserve e\nminor e\ndiffer a\nstake a\n"

// names may stand wherever a name does: of 1 and of 12 bytes, and some that are words of a line themselves.
func names() []string {
	return []string{"a", "Z", "F00", "a.b_c-9", "abcdefghijkl", "Z-----------", "account", "flow", "entity", "map", "group", "reserve", "stake", "asset", "move"}
}

// noNames are words, or what a line takes for several, or for none, that are no names.
func noNames() []string {
	return []string{"", "1", "-", ".", "_", "1bcdefghijkl", "abcdefghijklm", "A123456789012", "1a", "a b", "a/b", "a,", "#", "#a", "é", "aé", "\x00", "a\r", strings.Repeat("a", 5000)}
}

// same tells whether both are the same master data; lists without elements and nil lists are alike.
func same(a, b Master) bool {
	return slices.Equal(a.Chart, b.Chart) && slices.Equal(a.Flows, b.Flows) && slices.Equal(a.Entities, b.Entities) && slices.Equal(a.Lines, b.Lines) &&
		a.Currency == b.Currency && a.Reserve == b.Reserve && a.Differ == b.Differ && a.Minor == b.Minor && a.Stake == b.Stake
}

// copied answers master data that share no list with m.
func copied(m Master) Master {
	m.Chart, m.Flows = slices.Clone(m.Chart), slices.Clone(m.Flows)
	m.Entities, m.Lines = slices.Clone(m.Entities), slices.Clone(m.Lines)
	return m
}

// told answers a text or master data so that each byte can be seen; only the beginning, if it is long.
func told(what any) string {
	s := fmt.Sprintf("%q", fmt.Sprintf("%+v", what))
	return s[:min(len(s), 600)]
}

func checkParse(t *testing.T, s string, want Master, wantE api.Errno) {
	t.Helper()
	if m, e := Parse(s); !same(m, want) || e != wantE {
		t.Errorf("Parse(%s) = %s, %d; want %s, %d", told(s), told(m), e, told(want), wantE)
	}
}

// checkError asks for an error, and for nothing beside.
func checkError(t *testing.T, s string, wantE api.Errno) {
	t.Helper()
	checkParse(t, s, Master{}, wantE)
}

// checkRead asks for what wantParse answers.
func checkRead(t *testing.T, s string) {
	t.Helper()
	want, wantE := wantParse(s)
	checkParse(t, s, want, wantE)
}

func checkPrint(t *testing.T, m Master, want string) {
	t.Helper()
	before := copied(m)
	if s := Print(m); s != want {
		t.Errorf("Print(%s) = %s; want %s", told(m), told(s), told(want))
	}
	if !same(m, before) {
		t.Errorf("Print changed %s", told(before))
	}
}

func checkFind(t *testing.T, m Master, code, want string, wantIs bool) {
	t.Helper()
	before := copied(m)
	if s, is := Find(m, code); s != want || is != wantIs {
		t.Errorf("Find(%s, %s) = %q, %t; want %q, %t", told(m.Entities), told(code), s, is, want, wantIs)
	}
	if !same(m, before) {
		t.Errorf("Find changed %s", told(before))
	}
}

func checkTo(t *testing.T, m Master, account, flow, want string, wantIs bool) {
	t.Helper()
	before := copied(m)
	if s, is := To(m, account, flow); s != want || is != wantIs {
		t.Errorf("To(%s, %s, %s) = %q, %t; want %q, %t", told(m.Lines), told(account), told(flow), s, is, want, wantIs)
	}
	if !same(m, before) {
		t.Errorf("To changed %s", told(before))
	}
}

func checkMapped(t *testing.T, m Master, want bool) {
	t.Helper()
	before := copied(m)
	if is := Mapped(m); is != want {
		t.Errorf("Mapped(%s) = %t", told(m), is)
	}
	if !same(m, before) {
		t.Errorf("Mapped changed %s", told(before))
	}
}

// wordsOf answers what wantParse and the tests take for the lines of a text, in words.
func wordsOf(s string) [][]string {
	var lines [][]string
	for _, line := range strings.Split(s, "\n") {
		said, _, _ := strings.Cut(line, "#")
		if words := strings.Fields(said); len(words) > 0 {
			lines = append(lines, words)
		}
	}
	return lines
}

// forms answers the form of a line for each first word, as chapter 8's Words has them, and P6.2 and P7.1.
func forms() map[string]*regexp.Regexp {
	const name = `[A-Za-z][A-Za-z0-9._-]{0,11}`
	forms := map[string]*regexp.Regexp{}
	for head, rest := range map[string]string{
		"account": " NAME (asset( cash| mutual| fixed NAME| worn NAME)?|liability( mutual)?|equity)",
		"flow":    " NAME (open|move|fx|scope|close)",
		"entity":  " NAME NAME",
		"map":     " NAME NAME NAME",
		"group":   " NAME", "reserve": " NAME", "differ": " NAME", "minor": " NAME", "stake": " NAME",
	} {
		forms[head] = regexp.MustCompile("^" + head + strings.ReplaceAll(rest, "NAME", name) + "$")
	}
	return forms
}

var known = forms()

// wantParse answers what P8.1 asks of Parse: the lines as they stand, held
// against each other, and sorted behind all.
func wantParse(s string) (Master, api.Errno) {
	if len(s) > 20000 {
		return Master{}, api.ErrBig
	}
	if regexp.MustCompile(`[^\x09\x0a\x20-\x7e]`).FindStringIndex(s) != nil {
		return Master{}, api.ErrForm
	}
	var ahead [][]string
	for _, words := range wordsOf(s) {
		if e := wantLine(words, ahead); e != api.OK {
			return Master{}, e
		}
		ahead = append(ahead, words)
	}
	return wantAll(ahead)
}

// wantLine answers the error that P8.1 tells of a line behind others.
func wantLine(words []string, ahead [][]string) api.Errno {
	form := known[words[0]]
	if form == nil || !form.MatchString(strings.Join(words, " ")) {
		return api.ErrForm
	}
	count := 0
	for _, other := range ahead {
		if other[0] != words[0] {
			continue
		}
		count++
		switch words[0] {
		case "account", "entity":
			if other[1] == words[1] {
				return api.ErrTwice
			}
		case "flow":
			if other[1] == words[1] || words[2] != "move" && other[2] == words[2] {
				return api.ErrTwice
			}
		case "map":
			if other[1] == words[1] && other[2] == words[2] {
				return api.ErrTwice
			}
		default:
			return api.ErrTwice
		}
	}
	if words[0] == "map" && count >= 1000 || words[0] != "map" && count >= 60 {
		return api.ErrBig
	}
	return api.OK
}

// wantAll answers the master data of lines that are right one by one, or the error that P8.1 tells behind all.
func wantAll(lines [][]string) (Master, api.Errno) {
	heads, accounts, flows, kinds := map[string][]string{}, map[string]string{}, map[string]bool{}, map[string]bool{}
	var m Master
	for _, words := range lines {
		heads[words[0]] = words[1:]
		switch words[0] {
		case "account":
			accounts[words[1]] = strings.Join(words[2:], " ")
			m.Chart = append(m.Chart, accountOf(words))
		case "flow":
			flows[words[1]], kinds[words[2]] = true, true
			m.Flows = append(m.Flows, flow.Flow{Code: words[1], Kind: slices.Index([]string{"open", "move", "fx", "scope", "close"}, words[2])})
		case "entity":
			m.Entities = append(m.Entities, Entity{words[1], words[2]})
		case "map":
			m.Lines = append(m.Lines, Line{words[1], words[2], words[3]})
		}
	}
	for _, l := range m.Lines {
		if accounts[l.Account] == "" || !flows[l.Flow] {
			return Master{}, api.ErrName
		}
	}
	classes := map[string]string{"reserve": "equity", "minor": "equity", "differ": "asset", "stake": "asset"}
	for head := range classes {
		if heads[head] == nil || accounts[heads[head][0]] == "" {
			return Master{}, api.ErrName
		}
	}
	if heads["group"] == nil {
		return Master{}, api.ErrName
	}
	if !kinds["open"] || !kinds["fx"] || !kinds["scope"] || !kinds["close"] {
		return Master{}, api.ErrFlow
	}
	for head, class := range classes {
		if accounts[heads[head][0]] != class {
			return Master{}, api.ErrClass
		}
	}
	m.Currency, m.Reserve, m.Differ, m.Minor, m.Stake = heads["group"][0], heads["reserve"][0], heads["differ"][0], heads["minor"][0], heads["stake"][0]
	sort.Slice(m.Chart, func(i, j int) bool { return m.Chart[i].Code < m.Chart[j].Code })
	sort.Slice(m.Flows, func(i, j int) bool { return m.Flows[i].Code < m.Flows[j].Code })
	sort.Slice(m.Entities, func(i, j int) bool { return m.Entities[i].Code < m.Entities[j].Code })
	// A byte below all that a name may have: accounts count first.
	sort.Slice(m.Lines, func(i, j int) bool {
		return m.Lines[i].Account+" "+m.Lines[i].Flow < m.Lines[j].Account+" "+m.Lines[j].Flow
	})
	return m, api.OK
}

// accountOf answers the account of a line that is one.
func accountOf(words []string) chart.Account {
	a := chart.Account{Code: words[1], Class: slices.Index([]string{"asset", "liability", "equity"}, words[2])}
	switch mark := append(words, "")[3]; mark {
	case "cash":
		a.Cash = true
	case "mutual":
		a.Mutual = true
	case "fixed", "worn":
		a.Fixed, a.Worn = words[4], mark == "worn"
	}
	return a
}

// linesOf answers the lines of a text, each with its end.
func linesOf(s string) []string {
	lines := strings.SplitAfter(s, "\n")
	return lines[:len(lines)-1]
}

// replaced answers usualText with another line, or several or none, in the place of one.
func replaced(t *testing.T, old, by string) string {
	t.Helper()
	if strings.Count("\n"+usualText, "\n"+old+"\n") != 1 {
		t.Fatalf("the line %q is not in the text", old)
	}
	return strings.TrimPrefix(strings.Replace("\n"+usualText, "\n"+old+"\n", "\n"+by+"\n", 1), "\n")
}

func TestParse(t *testing.T) {
	checkParse(t, usualText, usual(), api.OK)
	checkParse(t, usualPrinted, usual(), api.OK)
	// Remarks, blanks of both kinds, lines without words, and no end behind the last one.
	checkParse(t, strings.ReplaceAll(usualText, "\n", " # account bank asset\n\n\t\n# group EUR\n"), usual(), api.OK)
	checkParse(t, strings.ReplaceAll(strings.ReplaceAll(usualText, " ", " \t "), "\n", "\t\n\t "), usual(), api.OK)
	checkParse(t, strings.TrimSuffix(usualText, "\n"), usual(), api.OK)
	// The example of the chapter.
	m, e := Parse(smallText + "entity E1 USD")
	if e != api.OK || !slices.Equal(m.Entities, []Entity{{"E1", "USD"}}) {
		t.Errorf("the entity of \"entity E1 USD\": %s, %d", told(m.Entities), e)
	}
}

// TestParseTheLeast has no entity, no map, no movement, and roles that are one account.
func TestParseTheLeast(t *testing.T) {
	want := Master{
		Chart:    chart.Chart{{Code: "a"}, {Code: "e", Class: api.Equity}},
		Flows:    flow.List{{Code: "c", Kind: api.Close}, {Code: "o", Kind: api.Open}, {Code: "s", Kind: api.Scope}, {Code: "x", Kind: api.Fx}},
		Currency: "U", Reserve: "e", Differ: "a", Minor: "e", Stake: "a",
	}
	checkParse(t, smallText, want, api.OK)
	for i, line := range linesOf(smallText) {
		e := api.ErrName
		if strings.HasPrefix(line, "flow") {
			e = api.ErrFlow
		}
		checkError(t, strings.Join(slices.Delete(linesOf(smallText), i, i+1), ""), e)
	}
	// An entity, a currency, an account, a flow and a place of the map may have one name.
	want.Entities, want.Lines = []Entity{{"a", "a"}, {"o", "U"}}, []Line{{"a", "o", "a"}, {"e", "o", "a"}}
	checkParse(t, "map e o a\nentity o U\n"+smallText+"map a o a\nentity a a\n", want, api.OK)
}

// TestParseNoLines has nothing in it that would be there twice, or wrong, but all is missing.
func TestParseNoLines(t *testing.T) {
	for _, s := range []string{"", "\n", "\n\n", " ", "\t\n ", "#", "# group USD\n", strings.Repeat("\n", 20000)} {
		checkError(t, s, api.ErrName)
	}
}

// TestParseNoTexts asks for the errors of the lines as such, wherever they stand.
func TestParseNoTexts(t *testing.T) {
	for _, wrong := range []string{"\x00", "\x0b", "\r", "\x1f", "\x7f", "\x80", "\xff", "é", "\u00a0"} {
		for _, s := range []string{wrong, wrong + usualText, usualText + wrong, usualText + "#" + wrong, replaced(t, "entity A USD", "entity A"+wrong+" USD")} {
			checkError(t, s, api.ErrForm)
		}
	}
	remark := "#" + strings.Repeat("a", 20000-len(usualText)-1)
	checkParse(t, usualText+remark, usual(), api.OK)
	checkError(t, usualText+remark+"a", api.ErrBig)
	checkError(t, usualText+strings.Repeat("\n", 20001-len(usualText)), api.ErrBig)
	checkError(t, strings.Repeat("\x00", 20001), api.ErrBig)
	checkError(t, strings.Repeat("x\n", 10000), api.ErrForm)
}

// wrongLines are lines that have not their form.
func wrongLines() []string {
	wrong := []string{
		// First words that are none, or of other texts, or told otherwise.
		"thing", "thing A", "thing A B", "Group USD", "GROUP USD", "groups USD", "grou USD", "entities A USD", "Entity A USD", "maps bank F98 x", "Map bank F98 x",
		"reserves res", "Reserve res", "differs dif", "minors min", "Minor min", "stakes stk", "currency USD", "USD", "A", "1", "-", "=", "fact A bank F00 - 1", "root G", "rate EUR 1/2",
		"asset bank", "open F00", "accounts x asset", "Account x asset", "flows x move", "Flow x move",
		// Words in another order.
		"USD group", "A entity USD", "A USD entity", "bank map F98 x", "res reserve", "x account asset", "x flow move",
		// Too few.
		"group", "reserve", "differ", "minor", "stake", "entity", "entity Z", "map", "map bank", "map bank F98", "account", "account x", "flow", "flow x", "flow move",
		// Too many.
		"group USD EUR", "group group USD", "reserve res res", "reserve res equity", "differ dif stk", "minor min x", "stake stk stk", "entity Z USD x", "entity Z USD entity Z USD",
		"map bank F98 x y", "map map bank F98 x", "map bank F98 x map", "account x asset cash cash", "account x y asset", "flow x move y", "flow x y move",
		// Accounts and flows that their own layers do not take.
		"account x money", "account x asset equity", "account x equity cash", "account x liability fixed k", "account x asset fixed", "account x asset worn 1", "account x Asset",
		"flow x none", "flow x Move", "flow x 1", "flow x asset", "account x open", "account 1 asset", "flow 1 move",
	}
	for _, no := range noNames() {
		for _, line := range []string{"group %", "reserve %", "differ %", "minor %", "stake %", "entity % USD", "entity Z %", "map % F98 x", "map bank % x", "map bank F98 %", "account % asset", "account x asset fixed %", "account x asset worn %", "flow % move"} {
			wrong = append(wrong, strings.ReplaceAll(line, "%", no))
		}
	}
	return wrong
}

func TestParseWrongLines(t *testing.T) {
	for _, wrong := range wrongLines() {
		checkError(t, wrong, api.ErrForm)
		checkError(t, wrong+"\n"+usualText, api.ErrForm)
		checkError(t, usualText+wrong, api.ErrForm)
		checkError(t, replaced(t, "entity B EUR", wrong), api.ErrForm)
		// In the place of the line that it would be, too.
		for _, line := range []string{"group USD", "reserve res", "differ dif", "minor min", "stake stk"} {
			if strings.HasPrefix(wrong, strings.Fields(line)[0]) {
				checkError(t, replaced(t, line, wrong), api.ErrForm)
			}
		}
	}
	// Each line of right ones with a word more, and with one less.
	for i, line := range linesOf(usualText) {
		words := strings.Fields(line)
		for _, wrong := range []string{line[:len(line)-1] + " x", line[:len(line)-1] + " " + words[0], "x " + line[:len(line)-1], words[0] + " " + line[:len(line)-1]} {
			checkError(t, strings.Join(slices.Replace(linesOf(usualText), i, i+1, wrong+"\n"), ""), api.ErrForm)
		}
		for at := range words {
			fewer := strings.Join(slices.Delete(slices.Clone(words), at, at+1), " ") + "\n"
			checkRead(t, strings.Join(slices.Replace(linesOf(usualText), i, i+1, fewer), ""))
		}
	}
}

// TestParseNames lays each name wherever one stands.
func TestParseNames(t *testing.T) {
	base := strings.Replace(smallText, "group U\n", "", 1)
	for _, s := range names() {
		m, e := Parse(base + "group " + s)
		if e != api.OK || m.Currency != s {
			t.Errorf("group %s: %s, %d", s, told(m), e)
		}
		m, e = Parse(smallText + "entity " + s + " USD")
		if e != api.OK || !slices.Equal(m.Entities, []Entity{{s, "USD"}}) {
			t.Errorf("entity %s USD: %s, %d", s, told(m), e)
		}
		m, e = Parse(smallText + "entity A " + s)
		if e != api.OK || !slices.Equal(m.Entities, []Entity{{"A", s}}) {
			t.Errorf("entity A %s: %s, %d", s, told(m), e)
		}
		m, e = Parse(smallText + "map a x " + s)
		if e != api.OK || !slices.Equal(m.Lines, []Line{{"a", "x", s}}) {
			t.Errorf("map a x %s: %s, %d", s, told(m), e)
		}
		text := strings.NewReplacer("account a ", "account "+s+" ", "flow x ", "flow "+s+" ", "differ a", "differ "+s, "stake a", "stake "+s).Replace(smallText)
		m, e = Parse(text + "map " + s + " " + s + " To")
		if e != api.OK || m.Differ != s || m.Stake != s || !slices.Equal(m.Lines, []Line{{s, s, "To"}}) {
			t.Errorf("the account %s: %s, %d", s, told(m), e)
		}
		text = strings.NewReplacer("account e ", "account E."+s+" ", "reserve e", "reserve E."+s, "minor e", "minor E."+s).Replace(smallText)
		m, e = Parse(text)
		if len(s) <= 10 && (e != api.OK || m.Reserve != "E."+s || m.Minor != "E."+s) || len(s) > 10 && e != api.ErrForm {
			t.Errorf("the account E.%s: %s, %d", s, told(m), e)
		}
	}
}

func TestParseTwice(t *testing.T) {
	// Each line once more, right behind it, ahead of all and behind all.
	for i, line := range linesOf(usualText) {
		checkError(t, strings.Join(slices.Insert(linesOf(usualText), i, line), ""), api.ErrTwice)
		checkError(t, line+usualText, api.ErrTwice)
		checkError(t, usualText+line, api.ErrTwice)
		checkError(t, line+line, api.ErrTwice)
	}
	// Once more, but otherwise.
	for _, line := range []string{
		"group EUR", "group group", "reserve min", "reserve none", "differ stk", "differ dif", "minor res", "minor cap", "stake dif", "stake none",
		"account bank asset", "account bank equity", "account cap asset fixed mach", "flow F20 scope", "flow F20 fx", "flow F00 move", "flow F50 open", "flow F50 fx", "flow F50 scope", "flow F50 close",
		"entity A EUR", "entity B USD", "entity b b", "map bank F20 Out", "map cap F20 In", "map bank F80 bank",
	} {
		checkError(t, usualText+line, api.ErrTwice)
		checkError(t, line+"\n"+usualText, api.ErrTwice)
	}
}

// TestParseNotTwice has lines that share some names with others, but not those that stand once.
func TestParseNotTwice(t *testing.T) {
	for _, line := range []string{
		"entity a USD", "entity USD A", "entity C USD", "entity bank USD", "entity F00 EUR", "account A asset", "account F00 equity", "account Bank asset cash", "flow bank move", "flow A move", "flow f20 move",
		"map bank F98 In", "map bank F00 In", "map bank F99 Rates", "map due F20 In", "map cap F80 Owners", "map loan F15 In", "map res F98 F98",
	} {
		for _, s := range []string{usualText + line, line + "\n" + usualText} {
			if _, e := Parse(s); e != api.OK {
				t.Errorf("Parse with %q: %d", line, e)
			}
			checkRead(t, s)
		}
	}
	// Names that would be the same if they were laid together.
	base := smallText + "account b asset\naccount ab asset\naccount a.b asset\nflow bc move\nflow b.c move\nflow cc move\nflow ccc move\n"
	m, e := Parse(base + "map a bc x\nmap ab cc x\nmap a b.c x\nmap a.b cc x\nmap ab c x\nmap a cc x\n")
	want := []Line{{"a", "b.c", "x"}, {"a", "bc", "x"}, {"a", "cc", "x"}, {"a.b", "cc", "x"}, {"ab", "c", "x"}, {"ab", "cc", "x"}}
	if e != api.OK || !slices.Equal(m.Lines, want) {
		t.Errorf("maps with names alike: %s, %d", told(m.Lines), e)
	}
}

// code answers a name for a number, so that the names rise as the numbers do.
func code(i int) string {
	return string([]byte{byte('a' + i/26), byte('a' + i%26)})
}

// many answers n lines "account", "flow", "entity" or "map", of which no two are of one thing.
func many(head string, n int) string {
	var s strings.Builder
	for i := range n {
		// A prime above all these counts: each number comes once, in no order.
		at := i * 7919 % n
		switch head {
		case "account":
			s.WriteString("account " + code(at) + " asset\n")
		case "flow":
			s.WriteString("flow " + code(at) + " move\n")
		case "entity":
			s.WriteString("entity " + code(at) + " U\n")
		case "map":
			s.WriteString("map " + code(at/40) + " " + code(at%40) + " T\n")
		}
	}
	return s.String()
}

// TestParseAsMuchAsThereMayBe has 60 accounts, 60 flows, 60 entities, 1000 maps, and one more of each.
func TestParseAsMuchAsThereMayBe(t *testing.T) {
	// Of these smallText has 2 accounts and 4 flows.
	s := many("map", 1000) + many("account", 58) + many("flow", 56) + smallText + many("entity", 60)
	m, e := Parse(s)
	if e != api.OK || len(m.Chart) != 60 || len(m.Flows) != 60 || len(m.Entities) != 60 || len(m.Lines) != 1000 {
		t.Fatalf("Parse of as much as there may be: %d accounts, %d flows, %d entities, %d maps, %d", len(m.Chart), len(m.Flows), len(m.Entities), len(m.Lines), e)
	}
	for i, x := range m.Entities {
		if x != (Entity{code(i), "U"}) {
			t.Errorf("entity %d: %v", i, x)
		}
	}
	for i, l := range m.Lines {
		if l != (Line{code(i / 40), code(i % 40), "T"}) {
			t.Errorf("map %d: %v", i, l)
		}
	}
	checkRead(t, s)
	checkParse(t, Print(m), m, api.OK)
	for _, line := range []string{"account zz asset\n", "account A equity\n", "flow zz move\n", "flow A move\n", "entity zz U\n", "entity A V\n", "map zz zz T\n", "map A aa T\n", "map aa zz T\n", "map az aa T\n"} {
		checkError(t, s+line, api.ErrBig)
	}
	// One that is there already is told as such, even if there is no room.
	for _, line := range []string{"account aa asset\n", "flow aa move\n", "flow zz open\n", "entity aa V\n", "map aa aa S\n"} {
		checkError(t, s+line, api.ErrTwice)
	}
	// One that has not its form is told as such too.
	for _, line := range []string{"account zz\n", "flow zz\n", "entity zz\n", "entity aa 1\n", "map zz zz\n", "map aa aa 1\n"} {
		checkError(t, s+line, api.ErrForm)
	}
}

// TestParseOneLess asks for each limit alone: it is not met while there is one less.
func TestParseOneLess(t *testing.T) {
	for _, x := range []struct {
		head string
		room int
		one  string
	}{{"account", 58, "account zz asset\n"}, {"flow", 56, "flow zz move\n"}, {"entity", 60, "entity zz U\n"}} {
		checkError(t, smallText+many(x.head, x.room)+x.one, api.ErrBig)
		checkError(t, x.one+smallText+many(x.head, x.room), api.ErrBig)
		s := smallText + many(x.head, x.room-1) + x.one
		if _, e := Parse(s); e != api.OK {
			t.Errorf("one less of %s: %d", x.head, e)
		}
		checkRead(t, s)
	}
	base := smallText + many("account", 26) + many("flow", 40)
	for n, want := range map[int]api.Errno{60: api.OK, 61: api.OK, 998: api.OK, 999: api.OK, 1000: api.ErrBig, 1001: api.ErrBig} {
		s := base + many("map", n) + "map a x T\n"
		m, e := Parse(s)
		if e != want || e == api.OK && len(m.Lines) != n+1 {
			t.Errorf("%d maps and one more: %d, %d", n, len(m.Lines), e)
		}
		checkRead(t, s)
	}
}

// TestParseNoNames lacks what each master data have, or has names that nobody has.
func TestParseNoNames(t *testing.T) {
	for _, line := range []string{"group USD", "reserve res", "differ dif", "minor min", "stake stk"} {
		checkError(t, replaced(t, line, ""), api.ErrName)
		checkError(t, replaced(t, line, "# "+line), api.ErrName)
		head := strings.Fields(line)[0]
		if head == "group" {
			// A currency is no account, and nobody need have it.
			for _, s := range []string{"none", "EUR", "res"} {
				if m, e := Parse(replaced(t, line, "group "+s)); e != api.OK || m.Currency != s {
					t.Errorf("group %s: %d", s, e)
				}
			}
			continue
		}
		// A flow, an entity, a currency, a place of the map, or another text than the account's.
		for _, none := range []string{"none", "F00", "A", "USD", "In", "Res", "re", "res.", "DIF", "di", "Min", "minn", "Stk", "st", "mach", "account", head} {
			checkError(t, replaced(t, line, head+" "+none), api.ErrName)
		}
	}
	for _, name := range []string{"none", "F20", "A", "USD", "In", "Bank", "ban", "banks", "mach"} {
		checkError(t, usualText+"map "+name+" F98 x", api.ErrName)
		checkError(t, "map "+name+" F98 x\n"+usualText, api.ErrName)
		checkError(t, replaced(t, "map bank F80 Rates", "map "+name+" F80 Rates"), api.ErrName)
	}
	for _, name := range []string{"none", "bank", "A", "USD", "In", "f20", "F2", "F200", "F81", "open", "fx"} {
		checkError(t, usualText+"map loan "+name+" x", api.ErrName)
		checkError(t, "map loan "+name+" x\n"+usualText, api.ErrName)
		checkError(t, replaced(t, "map bank F80 Rates", "map bank "+name+" Rates"), api.ErrName)
	}
	checkError(t, usualText+"map F20 bank x", api.ErrName)
	checkError(t, usualText+"map none none x", api.ErrName)
	// What the first, the last, and one in between go to is no name that counts.
	checkRead(t, usualText+"map loan F20 none\nmap bank F98 none\nmap stk F99 none")
}

func TestParseFlowsThatAreNotWhole(t *testing.T) {
	whole := []string{"flow F99 close", "flow F00 open", "flow F98 scope"}
	for choice := range 1 << len(whole) {
		s := usualText
		for i, line := range whole {
			if choice>>i&1 == 0 {
				s = strings.Replace(s, line+"\n", "", 1)
			}
		}
		want := api.ErrFlow
		if choice == 1<<len(whole)-1 {
			want = api.OK
		}
		if _, e := Parse(s); e != want {
			t.Errorf("the choice %b of flows: %d", choice, e)
		}
		checkRead(t, s)
	}
	// A movement in its place does not do; none of Move does.
	for _, line := range append(whole, "flow F80 fx") {
		words := strings.Fields(line)
		checkError(t, replaced(t, line, "flow "+words[1]+" move"), api.ErrFlow)
	}
	least := linesOf(smallText)
	for i, line := range least {
		if strings.HasPrefix(line, "flow") {
			checkError(t, strings.Join(slices.Delete(slices.Clone(least), i, i+1), ""), api.ErrFlow)
			checkError(t, strings.Join(slices.Delete(slices.Clone(least), i, i+1), "")+many("flow", 50), api.ErrFlow)
		}
	}
}

// TestParseClasses lets each account, of each class and with each mark, be each of the four.
func TestParseClasses(t *testing.T) {
	for head, class := range map[string]string{"reserve res": "equity", "minor min": "equity", "differ dif": "asset", "stake stk": "asset"} {
		for _, kind := range []string{"asset", "asset cash", "asset mutual", "asset fixed mach", "asset worn mach", "asset fixed asset", "liability", "liability mutual", "equity"} {
			s := replaced(t, head, strings.Fields(head)[0]+" one") + "account one " + kind + "\n"
			want := api.ErrClass
			if kind == class {
				want = api.OK
			}
			if m, e := Parse(s); e != want || e != api.OK && !same(m, Master{}) {
				t.Errorf("%s as an account %q: %d", head, kind, e)
			}
			checkRead(t, s)
		}
	}
	// Two of them in each other's place, and two that are one account.
	checkError(t, strings.NewReplacer("reserve res", "reserve dif", "differ dif", "differ res").Replace(usualText), api.ErrClass)
	checkError(t, strings.NewReplacer("minor min", "minor stk", "stake stk", "stake min").Replace(usualText), api.ErrClass)
	want := usual()
	want.Reserve, want.Minor, want.Differ, want.Stake = "min", "res", "stk", "dif"
	checkParse(t, strings.NewReplacer("reserve res", "reserve min", "minor min", "minor res", "differ dif", "differ stk", "stake stk", "stake dif").Replace(usualText), want, api.OK)
	want.Reserve, want.Minor, want.Differ, want.Stake = "cap", "cap", "dif", "dif"
	checkParse(t, strings.NewReplacer("reserve res", "reserve cap", "minor min", "minor cap", "stake stk", "stake dif").Replace(usualText), want, api.OK)
}

// TestParseOrdersAsTextsStand has names that stand otherwise by their letters alone, or by their lengths.
func TestParseOrdersAsTextsStand(t *testing.T) {
	rising := []string{"A", "A-", "A.", "A1", "A10", "A2", "AB", "A_", "Aa", "B", "Z", "aA", "a_b", "aa", "ab", "b"}
	var entities []Entity
	var lines []Line
	base := smallText
	for i, s := range rising {
		// Currencies and places fall where codes rise: they count nothing for the order.
		other := rising[len(rising)-1-i]
		entities = append(entities, Entity{s, other})
		base += "account " + s + " asset\nflow " + s + " move\n"
		for j, f := range rising {
			lines = append(lines, Line{s, f, rising[len(rising)-1-j]})
		}
	}
	r := rand.New(rand.NewSource(1))
	for range 20 {
		s := base
		for _, i := range r.Perm(len(entities)) {
			s += "entity " + entities[i].Code + " " + entities[i].Currency + "\n"
		}
		for _, i := range r.Perm(len(lines)) {
			s += "map " + lines[i].Account + " " + lines[i].Flow + " " + lines[i].To + "\n"
		}
		m, e := Parse(s)
		if e != api.OK || !slices.Equal(m.Entities, entities) || !slices.Equal(m.Lines, lines) {
			t.Fatalf("%s and %s, %d", told(m.Entities), told(m.Lines), e)
		}
	}
}

// TestParseWrongInSeveralWays asks which error is told where more than one would hold.
func TestParseWrongInSeveralWays(t *testing.T) {
	// What is told behind all: names, then flows, then classes, however many are wrong.
	for _, name := range []string{"", "group", "reserve", "differ", "minor", "stake", "map none F20 x", "map bank none x", "reserve none", "stake none"} {
		for _, broken := range []string{"", "flow F98 scope\n", "flow F80 fx\n"} {
			for _, class := range []string{"", "reserve res", "differ dif", "minor min", "stake stk"} {
				s := strings.Replace(usualText, broken, "", 1)
				s = strings.Replace(s, "map bank F80 Rates\n", "", 1)
				want := api.OK
				if class != "" {
					s = strings.Replace(s, class, strings.Fields(class)[0]+" loan", 1)
					want = api.ErrClass
				}
				if broken != "" {
					want = api.ErrFlow
				}
				if name != "" {
					s = spoilt(s, name)
					want = api.ErrName
				}
				if m, e := Parse(s); e != want || e != api.OK && !same(m, Master{}) {
					t.Errorf("with %q, %q and %q: %d; want %d", name, broken, class, e, want)
				}
				checkRead(t, s)
				// What is told of a line counts ahead of all that; of two lines the first one.
				checkError(t, s+"thing\n", api.ErrForm)
				checkError(t, s+"entity A USD\n", api.ErrTwice)
				checkError(t, s+"entity A USD\nthing\n", api.ErrTwice)
				checkError(t, s+"thing\nentity A USD\n", api.ErrForm)
				checkError(t, s+"entity A 1\nentity A USD\n", api.ErrForm)
				checkError(t, "thing\n"+s+"entity A USD\n", api.ErrForm)
				// What is told of the text counts ahead of its lines.
				checkError(t, s+"entity A USD\n\x00", api.ErrForm)
				checkError(t, s+"entity A USD\n\x00"+strings.Repeat(" ", 20000), api.ErrBig)
			}
		}
	}
	// A full list, and behind it one that is there, or has not its form, or all of it the other way round.
	full := many("entity", 60)
	checkError(t, full+"entity zz U\nentity aa U\nthing\n", api.ErrBig)
	checkError(t, full+"entity aa U\nentity zz U\nthing\n", api.ErrTwice)
	checkError(t, full+"thing\nentity aa U\nentity zz U\n", api.ErrForm)
	checkError(t, many("account", 60)+"account zz asset\nflow a\n", api.ErrBig)
	checkError(t, many("flow", 60)+"flow zz open\nflow a\n", api.ErrBig)
	checkError(t, many("map", 1000)+"map zz zz T\n", api.ErrBig)
	checkError(t, many("map", 1000), api.ErrName)
	checkError(t, full, api.ErrName)
}

// spoilt answers s with another line "map", or with another one in the place
// of the line with its first word; without that line, if by is this word alone.
func spoilt(s, by string) string {
	head, _, behind := strings.Cut(by, " ")
	lines := slices.DeleteFunc(linesOf(s), func(line string) bool { return head != "map" && strings.HasPrefix(line, head+" ") })
	if behind {
		lines = append(lines, by+"\n")
	}
	return strings.Join(lines, "")
}

// TestParseOfAll holds Parse against P8.1: of texts by chance, right for the most part.
func TestParseOfAll(t *testing.T) {
	// A fixed seed: the tests are to be the same each time.
	r := rand.New(rand.NewSource(1))
	told := map[api.Errno]int{}
	for range 10000 {
		s := anyText(r)
		checkRead(t, s)
		_, e := Parse(s)
		told[e]++
	}
	for _, e := range []api.Errno{api.OK, api.ErrForm, api.ErrTwice, api.ErrName, api.ErrFlow, api.ErrClass} {
		if told[e] < 100 {
			t.Errorf("%d of these texts are told %d", told[e], e)
		}
	}
}

// anyText answers a text in which some lines of right ones are missing, changed, or there once more.
func anyText(r *rand.Rand) string {
	lines := linesOf(usualText)
	for range r.Intn(3) {
		at := r.Intn(len(lines))
		switch words := strings.Fields(lines[at]); r.Intn(7) {
		case 0:
			lines = slices.Delete(lines, at, at+1)
		case 1:
			lines = slices.Insert(lines, r.Intn(len(lines)+1), lines[at])
		case 2:
			words[r.Intn(len(words))] = strings.Fields(usualText)[r.Intn(80)]
			lines[at] = strings.Join(words, " ") + "\n"
		case 3:
			words[r.Intn(len(words))] = append(names(), noNames()...)[r.Intn(20)]
			lines[at] = strings.Join(words, " ") + "\n"
		case 4:
			line := "map " + []string{"bank", "cap", "loan", "stk", "res"}[r.Intn(5)] + " " + []string{"F00", "F15", "F20", "F80", "F98", "F99"}[r.Intn(6)] + " T\n"
			lines = slices.Insert(lines, at, line)
		case 5:
			words = append(words[:1], strings.Fields(lines[r.Intn(len(lines))])[1:]...)
			lines[at] = strings.Join(words, "\t") + " # changed\n"
		case 6:
			head := []string{"reserve", "differ", "minor", "stake"}[r.Intn(4)]
			lines = linesOf(spoilt(strings.Join(lines, ""), head+" "+usual().Chart[r.Intn(11)].Code))
		}
	}
	r.Shuffle(len(lines), func(i, j int) { lines[i], lines[j] = lines[j], lines[i] })
	return strings.Join(lines, "")
}

// TestParseAnswersNewLists changes what Parse answered: it is not seen in another list of it, or later.
func TestParseAnswersNewLists(t *testing.T) {
	first, _ := Parse(usualText)
	second, _ := Parse(usualText)
	for i := range first.Chart {
		first.Chart[i] = chart.Account{Code: "changed"}
	}
	for i := range first.Entities {
		first.Entities[i] = Entity{"changed", "changed"}
	}
	_ = append(first.Chart, chart.Account{Code: "appended"})
	_ = append(first.Entities, Entity{"appended", "appended"})
	if want := usual(); !slices.Equal(first.Flows, want.Flows) || !slices.Equal(first.Lines, want.Lines) || !same(second, want) {
		t.Errorf("lists that were changed: %s and %s", told(first), told(second))
	}
	checkParse(t, usualText, usual(), api.OK)
}

func TestPrint(t *testing.T) {
	checkPrint(t, usual(), usualPrinted)
	m, _ := Parse(smallText)
	checkPrint(t, m, "account a asset\naccount e equity\nflow c close\nflow o open\nflow s scope\nflow x fx\ngroup U\nreserve e\ndiffer a\nminor e\nstake a\n")
	m, _ = Parse(smallText + "map e s Z\nentity Z a\nentity A b\nmap e c A\nmap a x M\n")
	checkPrint(t, m, "account a asset\naccount e equity\nflow c close\nflow o open\nflow s scope\nflow x fx\nentity A b\nentity Z a\nmap a x M\nmap e c A\nmap e s Z\ngroup U\nreserve e\ndiffer a\nminor e\nstake a\n")
}

// TestPrintOfOthers has master data that no text tells: P8.2's words hold for them as they stand.
func TestPrintOfOthers(t *testing.T) {
	checkPrint(t, Master{}, "group \nreserve \ndiffer \nminor \nstake \n")
	checkPrint(t, Master{
		Chart:    chart.Chart{{Code: "b"}, {Code: "1"}, {Code: "a", Class: api.Equity}},
		Flows:    flow.List{{Code: "z", Kind: api.Move}, {Code: "y", Kind: 9}, {Code: "x", Kind: api.Open}},
		Entities: []Entity{{"B", "EUR"}, {"A", "USD"}, {"A", "USD"}},
		Lines:    []Line{{"z", "y", "x"}, {"a", "b", "c"}},
		Currency: "U", Reserve: "r", Differ: "d", Minor: "m", Stake: "s",
	}, "account b asset\n\naccount a equity\nflow z move\n\nflow x open\nentity B EUR\nentity A USD\nentity A USD\nmap z y x\nmap a b c\ngroup U\nreserve r\ndiffer d\nminor m\nstake s\n")
}

func TestFind(t *testing.T) {
	m := usual()
	checkFind(t, m, "A", "USD", true)
	checkFind(t, m, "B", "EUR", true)
	checkFind(t, m, "b", "CHF", true)
	for _, s := range append(noNames(), "C", "a", "AB", "A ", "USD", "EUR", "bank", "F00", "res", "zz", "group") {
		checkFind(t, m, s, "", false)
	}
	for _, none := range []Master{{}, {Currency: "USD", Entities: []Entity{}}, {Lines: m.Lines, Chart: m.Chart, Flows: m.Flows}, {Entities: m.Entities[:0]}} {
		checkFind(t, none, "A", "", false)
		checkFind(t, none, "", "", false)
	}
	for _, n := range []int{1, 2, 3, 59, 60} {
		many, e := Parse(smallText + many("entity", n))
		if e != api.OK || len(many.Entities) != n {
			t.Fatalf("%d entities: %d", n, e)
		}
		for i := range many.Entities {
			many.Entities[i].Currency = "U" + code(i)
		}
		for i := range n {
			checkFind(t, many, code(i), "U"+code(i), true)
			checkFind(t, many, code(i)+"a", "", false)
		}
		checkFind(t, many, code(n), "", false)
		checkFind(t, many, "A", "", false)
	}
}

func TestTo(t *testing.T) {
	m := usual()
	checkTo(t, m, "bank", "F15", "In", true)
	checkTo(t, m, "bank", "F20", "In", true)
	checkTo(t, m, "bank", "F80", "Rates", true)
	checkTo(t, m, "cap", "F20", "Owners", true)
	// Either name alone has lines; both together have not.
	for _, x := range [][2]string{{"cap", "F15"}, {"cap", "F80"}, {"bank", "F98"}, {"bank", "F00"}, {"loan", "F20"}, {"none", "F20"}, {"bank", "none"}, {"F20", "bank"}, {"bank", "In"}, {"In", "F20"}, {"Bank", "F20"}, {"ban", "F20"}, {"bank", "F2"}, {"bank", ""}, {"", "F20"}, {"", ""}, {"zz", "zz"}, {"A", "A"}} {
		checkTo(t, m, x[0], x[1], "", false)
	}
	checkTo(t, Master{}, "bank", "F20", "", false)
	checkTo(t, Master{}, "", "", "", false)
	checkTo(t, Master{Lines: m.Lines[:1]}, "bank", "F20", "", false)
	all, e := Parse(smallText + many("account", 26) + many("flow", 40) + many("map", 1000))
	if e != api.OK {
		t.Fatalf("1000 maps: %d", e)
	}
	for i := range all.Lines {
		all.Lines[i].To = "T" + fmt.Sprint(i)
	}
	for i := range 1000 {
		if s, is := To(all, code(i/40), code(i%40)); s != "T"+fmt.Sprint(i) || !is {
			t.Errorf("map %d: %q, %t", i, s, is)
		}
	}
	checkTo(t, all, "aa", code(40), "", false)
	checkTo(t, all, code(25), "aa", "", false)
}

// mappedText answers usualText with a line of each account for each of these flows.
func mappedText(flows ...string) string {
	lines := slices.DeleteFunc(linesOf(usualText), func(line string) bool { return strings.HasPrefix(line, "map ") })
	for _, a := range usual().Chart {
		for _, f := range flows {
			lines = append(lines, "map "+a.Code+" "+f+" T\n")
		}
	}
	return strings.Join(lines, "")
}

func TestMapped(t *testing.T) {
	checkMapped(t, usual(), false)
	all, e := Parse(mappedText("F15", "F20", "F80", "F98"))
	if e != api.OK || len(all.Lines) != 11*4 {
		t.Fatalf("the text with all maps: %d", e)
	}
	checkMapped(t, all, true)
	// One line missing, whichever it is.
	for i := range all.Lines {
		fewer := copied(all)
		fewer.Lines = slices.Delete(fewer.Lines, i, i+1)
		checkMapped(t, fewer, false)
	}
	// The opening or the closing of one account has a line, and of all accounts.
	for _, a := range all.Chart {
		for _, f := range []string{"F00", "F99"} {
			more, e := Parse(mappedText("F15", "F20", "F80", "F98") + "map " + a.Code + " " + f + " T\n")
			if e != api.OK || len(more.Lines) != 11*4+1 {
				t.Fatalf("the text with the map of %s and %s: %d", a.Code, f, e)
			}
			checkMapped(t, more, false)
		}
	}
	// Each choice of flows, with lines for all accounts.
	flows := []string{"F15", "F20", "F80", "F98", "F00", "F99"}
	for choice := range 1 << len(flows) {
		var some []string
		for i, f := range flows {
			if choice>>i&1 == 1 {
				some = append(some, f)
			}
		}
		m, e := Parse(mappedText(some...))
		if e != api.OK {
			t.Fatalf("maps for %q: %d", some, e)
		}
		checkMapped(t, m, choice == 1+2+4+8)
	}
	// One more account, or one more movement, has no lines yet.
	for _, line := range []string{"account zz asset\n", "account A equity\n", "flow F50 move\n", "flow A move\n"} {
		m, e := Parse(mappedText("F15", "F20", "F80", "F98") + line)
		if e != api.OK {
			t.Fatalf("%s: %d", line, e)
		}
		checkMapped(t, m, false)
	}
}

// TestMappedOfFew has nothing that asks for a line, or nothing but that.
func TestMappedOfFew(t *testing.T) {
	m, _ := Parse(smallText)
	checkMapped(t, m, false)
	for s, want := range map[string]bool{
		"map a x T\nmap a s T\nmap e x T\nmap e s T\n":              true,
		"map a x T\nmap a s T\nmap e x T\n":                         false,
		"map a x T\nmap a s T\nmap e x T\nmap e s T\nmap e o T\n":   false,
		"map a x T\nmap a s T\nmap e x T\nmap e s T\nmap a c T\n":   false,
		"map a x x\nmap a s s\nmap e x o\nmap e s c\n":              true,
		"map a o T\nmap a c T\nmap e o T\nmap e c T\n":              false,
		"map a x T\nmap a s T\nmap a o T\nmap a c T\n":              false,
		"map a x T\nmap e x T\n":                                    false,
		"map a s T\nmap e s T\n":                                    false,
		"map e s A\nmap e x B\nmap a s C\nmap a x D\nentity A x\n":  true,
		"map e s A\nmap e x B\nmap a s C\nmap a x D\nflow m move\n": false,
	} {
		m, e := Parse(smallText + s)
		if e != api.OK {
			t.Fatalf("%q: %d", s, e)
		}
		checkMapped(t, m, want)
	}
	// Without accounts, or without flows that ask for one, no line is missing.
	checkMapped(t, Master{}, true)
	checkMapped(t, Master{Chart: m.Chart}, true)
	checkMapped(t, Master{Flows: m.Flows}, true)
	checkMapped(t, Master{Chart: m.Chart, Flows: flow.List{{Code: "c", Kind: api.Close}, {Code: "o", Kind: api.Open}}}, true)
	checkMapped(t, Master{Flows: m.Flows, Lines: []Line{{"none", "o", "T"}}}, false)
	checkMapped(t, Master{Flows: m.Flows, Lines: []Line{{"none", "c", "T"}}}, false)
	checkMapped(t, Master{Flows: m.Flows, Lines: []Line{{"none", "x", "T"}}}, true)
}

// TestBack asks P8.5: master data come back from their text, and a text that Print wrote from its master data.
func TestBack(t *testing.T) {
	r := rand.New(rand.NewSource(2))
	texts := []string{usualText, smallText, mappedText("F15", "F20", "F80", "F98"), mappedText("F00", "F99")}
	for range 2000 {
		texts = append(texts, anyText(r))
	}
	right := 0
	for _, s := range texts {
		m, e := Parse(s)
		if e != api.OK {
			continue
		}
		right++
		checkParse(t, Print(m), m, api.OK)
		back, _ := Parse(Print(m))
		checkPrint(t, back, Print(m))
	}
	if right < 500 {
		t.Errorf("%d of these texts are right", right)
	}
}

// TestBackFromLongTexts has master data whose text is as long as one may be. With
// a byte more they can be read, without the end of the last line, but their own
// text is too long to come back.
func TestBackFromLongTexts(t *testing.T) {
	m, e := Parse(many("map", 1000) + many("account", 58) + many("flow", 56) + smallText + many("entity", 60))
	if e != api.OK {
		t.Fatalf("as much as there may be: %d", e)
	}
	at := 0
	for ; len(Print(m)) < 20000; at++ {
		m.Lines[at].To += strings.Repeat("o", min(11, 20000-len(Print(m))))
	}
	checkParse(t, Print(m), m, api.OK)
	m.Lines[at].To += "o"
	checkParse(t, strings.TrimSuffix(Print(m), "\n"), m, api.OK)
	checkError(t, Print(m), api.ErrBig)
}

// TestAnyOrder asks P8.5 of lines in other orders: turned round, cut in two, each line first or last, and by chance.
func TestAnyOrder(t *testing.T) {
	for _, s := range []string{usualText, smallText, mappedText("F15", "F20", "F80", "F98")} {
		want, e := Parse(s)
		if e != api.OK {
			t.Fatalf("%s: %d", told(s), e)
		}
		lines := linesOf(s)
		check := func(order []string) {
			t.Helper()
			checkParse(t, strings.Join(order, ""), want, api.OK)
		}
		check(append([]string{"# nothing\n"}, lines...))
		turned := slices.Clone(lines)
		slices.Reverse(turned)
		check(turned)
		for i, line := range lines {
			check(slices.Concat(lines[i:], lines[:i]))
			rest := slices.Delete(slices.Clone(lines), i, i+1)
			check(append([]string{line}, rest...))
			check(append(rest, line))
		}
		r := rand.New(rand.NewSource(3))
		for range 300 {
			order := slices.Clone(lines)
			r.Shuffle(len(order), func(i, j int) { order[i], order[j] = order[j], order[i] })
			check(order)
		}
	}
}

// TestNoMasters calls with master data that no text tells: nothing is asked
// but that the calls end, change nothing, and answer the same again.
func TestNoMasters(t *testing.T) {
	r := rand.New(rand.NewSource(4))
	some := append(append(names(), noNames()...), "bank", "F20", "x")
	any := func() string { return some[r.Intn(len(some))] }
	for range 1000 {
		m := Master{Currency: any(), Reserve: any(), Differ: any(), Minor: any(), Stake: any()}
		for range r.Intn(5) {
			m.Chart = append(m.Chart, chart.Account{Code: any(), Class: r.Intn(6) - 2, Cash: r.Intn(2) == 0, Mutual: r.Intn(2) == 0, Fixed: any(), Worn: r.Intn(2) == 0})
			m.Flows = append(m.Flows, flow.Flow{Code: any(), Kind: r.Intn(9) - 2})
			m.Entities = append(m.Entities, Entity{any(), any()})
			m.Lines = append(m.Lines, Line{any(), any(), any()})
		}
		before := copied(m)
		s, is := Print(m), Mapped(m)
		for _, name := range some {
			Find(m, name)
			To(m, name, any())
		}
		Parse(s)
		if Print(m) != s || Mapped(m) != is {
			t.Fatalf("two answers of %s", told(m))
		}
		if !same(m, before) {
			t.Fatalf("what was handed in was changed: %s", told(before))
		}
	}
}

// FuzzParse holds Parse against P8.1, and what it answers against P8.5.
func FuzzParse(f *testing.F) {
	for _, s := range []string{"", usualText, usualPrinted, smallText, smallText + "entity E1 USD", smallText + "map a x T\nmap a s T\n", "group U\ngroup U\n"} {
		f.Add(s)
	}
	for _, line := range wrongLines() {
		f.Add(line)
	}
	f.Fuzz(func(t *testing.T, s string) {
		checkRead(t, s)
		m, e := Parse(s)
		// What is joined may have a byte more than what was read.
		if text := Print(m); e == api.OK && len(text) <= 20000 {
			checkParse(t, text, m, api.OK)
		}
	})
}

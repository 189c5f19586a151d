package course

import (
	"fmt"
	"maps"
	"math/big"
	"math/rand"
	"reflect"
	"regexp"
	"slices"
	"strings"
	"testing"

	"comptroller/api"
	"comptroller/chart"
	"comptroller/flow"
	"comptroller/rate"
	"comptroller/unit"
)

// longest is as long as a name may be.
const longest = "Abcdefghi.-_"

// masterText is the text of ordinary master data; some flows have codes that
// are words of a table's text too, or nearly those of others.
const masterText = `group USD
account bank asset cash
account cap equity
account dif asset
flow F00 open
flow F15 move
flow F20 move
flow F2 move
flow f20 move
flow EUR move
flow USD move
flow average move
flow flow move
flow Abcdefghi.-_ move
flow F80 fx
flow F98 scope
flow F99 close
entity A USD
entity B EUR
reserve cap
minor cap
differ dif
stake dif
`

// world is master data, and what the test itself reads in their text: the
// kinds of flows by their words, and the group's currency.
type world struct {
	m     unit.Master
	kinds map[string]string
	group string
}

func worldOf(t testing.TB, s string) world {
	t.Helper()
	m, e := unit.Parse(s)
	if e != api.OK {
		t.Fatalf("master data: %d", e)
	}
	w := world{m, map[string]string{}, ""}
	for line := range strings.Lines(s) {
		words := strings.Fields(line)
		switch words[0] {
		case "flow":
			w.kinds[words[1]] = words[2]
		case "group":
			w.group = words[1]
		}
	}
	return w
}

func usualWorld(t testing.TB) world {
	t.Helper()
	return worldOf(t, masterText)
}

// otherWorld has masterText's words with other meanings: each flow but one is
// of another kind, and the group has another currency.
func otherWorld(t testing.TB) world {
	t.Helper()
	return worldOf(t, strings.NewReplacer(
		"group USD", "group EUR", "F00 open", "F00 scope", "F15 move", "F15 open", "F80 fx", "F80 close",
		"F98 scope", "F98 fx", "F99 close", "F99 move", "flow f20 move\n", "",
	).Replace(masterText))
}

// flows answers the codes of w's flows, by rising codes, and some that are none.
func (w world) flows() []string {
	return append(slices.Sorted(maps.Keys(w.kinds)), "F", "F21", "F200", "f", "f15", "CHF", "prior", "close", "", " ", "F20 ", "é", "\xff", strings.Repeat("F", 99))
}

// currencies are such as tables of the test have, and some that are none.
var currencies = []string{"USD", "EUR", "GBP", "CHF", "eur", "EU", "EURO", "F20", "prior", longest, "C007", "", " ", "EUR ", "é", "\xff", strings.Repeat("U", 99)}

// reading is what the test itself reads in a text: rates by the words ahead of them, with one blank between.
type reading map[string]rate.Rate

const nameForm = `([A-Za-z][A-Za-z0-9._-]{0,11})`

var (
	lineForm   = regexp.MustCompile(`\A(?:(?:prior|average|close) ` + nameForm + `|flow ` + nameForm + ` ` + nameForm + `) ([^ ]+)\z`)
	amountForm = regexp.MustCompile(`\A(0|-?[1-9][0-9]*)\z`)
	wrongByte  = regexp.MustCompile(`[^\x09\x0a\x20-\x7e]`)
)

// wantRate answers the rate of a text, by numbers of any size.
func wantRate(s string) (rate.Rate, api.Errno) {
	texts := strings.SplitN(s, "/", 2)
	if len(texts) == 1 {
		texts = append(texts, "1")
	}
	if !amountForm.MatchString(texts[0]) || !amountForm.MatchString(texts[1]) {
		return rate.Rate{}, api.ErrForm
	}
	num, _ := new(big.Int).SetString(texts[0], 10)
	den, _ := new(big.Int).SetString(texts[1], 10)
	if !num.IsInt64() || !den.IsInt64() {
		return rate.Rate{}, api.ErrBig
	}
	if num.Sign() < 1 || den.Sign() < 1 {
		return rate.Rate{}, api.ErrArg
	}
	r := new(big.Rat).SetFrac(num, den)
	most := big.NewInt(1_000_000_000)
	if r.Num().Cmp(most) > 0 || r.Denom().Cmp(most) > 0 {
		return rate.Rate{}, api.ErrBig
	}
	return rate.Rate{Num: r.Num().Int64(), Den: r.Denom().Int64()}, api.OK
}

// wantParse answers what P14.1 asks of Parse.
func wantParse(w world, s string) (reading, api.Errno) {
	if len(s) > 20000 {
		return nil, api.ErrBig
	}
	if wrongByte.MatchString(s) {
		return nil, api.ErrForm
	}
	table := reading{}
	for _, line := range strings.Split(s, "\n") {
		said, _, _ := strings.Cut(line, "#")
		words := strings.Fields(said)
		if len(words) == 0 {
			continue
		}
		if e := wantLine(w, table, strings.Join(words, " ")); e != api.OK {
			return nil, e
		}
	}
	return table, api.OK
}

// wantLine takes a line's words into a table, behind those that it has, and answers their error.
func wantLine(w world, table reading, words string) api.Errno {
	part := lineForm.FindStringSubmatch(words)
	if part == nil {
		return api.ErrForm
	}
	currency, code, of := part[1]+part[3], part[2], part[4]
	r, e := wantRate(of)
	if e != api.OK {
		return e
	}
	if kind, is := w.kinds[code]; code != "" && !is {
		return api.ErrName
	} else if is && kind != "move" && kind != "scope" {
		return api.ErrFlow
	}
	if currency == w.group {
		return api.ErrArg
	}
	ahead := strings.TrimSuffix(words, " "+of)
	if _, is := table[ahead]; is {
		return api.ErrTwice
	}
	if len(table) == 500 {
		return api.ErrBig
	}
	table[ahead] = r
	return api.OK
}

// wantOf answers what P14.2 asks of Of.
func wantOf(w world, table reading, currency, code string) (rate.Rate, api.Errno) {
	var from []string
	switch w.kinds[code] {
	case "":
		return rate.Rate{}, api.ErrName
	case "fx":
		return rate.Rate{}, api.ErrFlow
	case "open":
		from = []string{"prior " + currency}
	case "close":
		from = []string{"close " + currency}
	default:
		from = []string{"flow " + code + " " + currency, "average " + currency}
	}
	if currency == w.group {
		return rate.Rate{Num: 1, Den: 1}, api.OK
	}
	for _, ahead := range from {
		if r, is := table[ahead]; is {
			return r, api.OK
		}
	}
	return rate.Rate{}, api.ErrRate
}

// wantPrint answers what P14.3 asks of Print.
func wantPrint(table reading) string {
	ahead := slices.SortedFunc(maps.Keys(table), func(a, b string) int {
		return slices.Compare(strings.Split(a, " "), strings.Split(b, " "))
	})
	var text strings.Builder
	for _, words := range ahead {
		r := table[words]
		fmt.Fprintf(&text, "%s %d", words, r.Num)
		if r.Den != 1 {
			fmt.Fprintf(&text, "/%d", r.Den)
		}
		text.WriteString("\n")
	}
	return text.String()
}

// told answers a text so that each byte can be seen; only the beginning, if it is long.
func told(s string) string {
	s = fmt.Sprintf("%q", s)
	return s[:min(len(s), 600)]
}

// same tells whether both are the same master data.
func same(a, b unit.Master) bool {
	return slices.Equal(a.Chart, b.Chart) && slices.Equal(a.Flows, b.Flows) && slices.Equal(a.Entities, b.Entities) && slices.Equal(a.Lines, b.Lines) &&
		a.Currency == b.Currency && a.Reserve == b.Reserve && a.Differ == b.Differ && a.Minor == b.Minor && a.Stake == b.Stake
}

// copied answers master data that share no list with m.
func copied(m unit.Master) unit.Master {
	m.Chart, m.Flows = slices.Clone(m.Chart), slices.Clone(m.Flows)
	m.Entities, m.Lines = slices.Clone(m.Entities), slices.Clone(m.Lines)
	return m
}

// unchanged calls, and tells whether the master data are as they were, and
// whether the tables are printed as they were.
func unchanged(t *testing.T, m unit.Master, tables []Table, call func()) {
	t.Helper()
	before := copied(m)
	var texts []string
	for _, x := range tables {
		texts = append(texts, Print(x))
	}
	call()
	if !same(m, before) {
		t.Errorf("master data %s were changed", told(fmt.Sprint(before)))
	}
	for i, x := range tables {
		if s := Print(x); s != texts[i] {
			t.Errorf("a table %s was changed to %s", told(texts[i]), told(s))
		}
	}
}

// checkParse asks for an error and, if it is OK, for a table of this text.
func checkParse(t *testing.T, w world, s, want string, wantE api.Errno) Table {
	t.Helper()
	var x Table
	unchanged(t, w.m, nil, func() {
		var e api.Errno
		x, e = Parse(w.m, s)
		if e != wantE || Print(x) != want {
			t.Errorf("Parse(%s) = %s, %d; want %s, %d", told(s), told(Print(x)), e, told(want), wantE)
		}
		if e != api.OK && !reflect.DeepEqual(x, Table{}) {
			t.Errorf("Parse(%s) = %s beside %d", told(s), told(fmt.Sprint(x)), e)
		}
	})
	if table, e := wantParse(w, s); e != wantE || wantPrint(table) != want {
		t.Errorf("the test's own: Parse(%s) is %s, %d", told(s), told(wantPrint(table)), e)
	}
	return x
}

// checkErrors asks for an error of each of these texts, also behind other lines, and ahead of them.
func checkErrors(t *testing.T, w world, wantE api.Errno, texts ...string) {
	t.Helper()
	for _, s := range texts {
		checkParse(t, w, s, "", wantE)
		checkParse(t, w, s+"\n", "", wantE)
		checkParse(t, w, "average SEK 3\nflow F20 SEK 4/5\n"+s+"\n", "", wantE)
		checkParse(t, w, s+"\nprior SEK 3\nflow F20 SEK 4\n", "", wantE)
	}
}

// checkOK asks for each of these texts, in which nothing is wrong, that it is told again.
func checkOK(t *testing.T, w world, texts ...string) {
	t.Helper()
	for _, s := range texts {
		checkParse(t, w, s, s, api.OK)
	}
}

// checkRead asks for what the test itself reads, by all calls, and answers Parse's error.
func checkRead(t *testing.T, w world, s string) api.Errno {
	t.Helper()
	table, wantE := wantParse(w, s)
	x := checkParse(t, w, s, wantPrint(table), wantE)
	checkOfAll(t, w, x, table)
	if text := Print(x); wantE == api.OK && len(text) <= 20000 {
		back := checkParse(t, w, text, text, api.OK)
		if !reflect.DeepEqual(x, back) {
			t.Errorf("%s comes back as %s", told(fmt.Sprint(x)), told(fmt.Sprint(back)))
		}
	}
	return wantE
}

func checkOf(t *testing.T, w world, x Table, currency, code string, want rate.Rate, wantE api.Errno) {
	t.Helper()
	if r, e := Of(w.m, x, currency, code); r != want || e != wantE {
		t.Errorf("Of(%s, %q, %q) = %v, %d; want %v, %d", told(Print(x)), currency, code, r, e, want, wantE)
	}
}

// checkOfAll asks for what the test itself reads, of all currencies by all flows.
func checkOfAll(t *testing.T, w world, x Table, table reading) {
	t.Helper()
	for _, currency := range currencies {
		for _, code := range w.flows() {
			want, wantE := wantOf(w, table, currency, code)
			checkOf(t, w, x, currency, code, want, wantE)
		}
	}
}

// usualText is an ordinary table, in no order.
const usualText = `close EUR 12/10 # at the end of the year
prior EUR 1
average EUR 11/10

	flow F20	EUR  7
flow F98 GBP 3/4
average GBP 5/4
prior GBP 13/10
close GBP 9/7
flow F15 CHF 100/98
`

func TestUsual(t *testing.T) {
	w := usualWorld(t)
	x := checkParse(t, w, usualText, "average EUR 11/10\naverage GBP 5/4\nclose EUR 6/5\nclose GBP 9/7\n"+
		"flow F15 CHF 50/49\nflow F20 EUR 7\nflow F98 GBP 3/4\nprior EUR 1\nprior GBP 13/10\n", api.OK)
	for _, c := range []struct {
		currency, flow string
		num, den       int64
		e              api.Errno
	}{
		{"EUR", "F00", 1, 1, api.OK}, {"EUR", "F99", 6, 5, api.OK},
		{"EUR", "F15", 11, 10, api.OK}, {"EUR", "F20", 7, 1, api.OK}, {"EUR", "F98", 11, 10, api.OK},
		{"GBP", "F00", 13, 10, api.OK}, {"GBP", "F99", 9, 7, api.OK},
		{"GBP", "F15", 5, 4, api.OK}, {"GBP", "F20", 5, 4, api.OK}, {"GBP", "F98", 3, 4, api.OK},
		{"CHF", "F00", 0, 0, api.ErrRate}, {"CHF", "F99", 0, 0, api.ErrRate},
		{"CHF", "F15", 50, 49, api.OK}, {"CHF", "F20", 0, 0, api.ErrRate}, {"CHF", "F98", 0, 0, api.ErrRate},
		{"JPY", "F00", 0, 0, api.ErrRate}, {"JPY", "F20", 0, 0, api.ErrRate},
		{"USD", "F00", 1, 1, api.OK}, {"USD", "F20", 1, 1, api.OK}, {"USD", "F98", 1, 1, api.OK}, {"USD", "F99", 1, 1, api.OK},
		{"EUR", "F80", 0, 0, api.ErrFlow}, {"USD", "F80", 0, 0, api.ErrFlow}, {"JPY", "F80", 0, 0, api.ErrFlow},
		{"EUR", "F21", 0, 0, api.ErrName}, {"USD", "F21", 0, 0, api.ErrName}, {"JPY", "F21", 0, 0, api.ErrName},
	} {
		checkOf(t, w, x, c.currency, c.flow, rate.Rate{Num: c.num, Den: c.den}, c.e)
	}
	checkRead(t, w, usualText)
}

// TestExample is the chapter's: by its code of the flow.
func TestExample(t *testing.T) {
	w := worldOf(t, strings.Replace(masterText, "F99", "Fz", 1))
	x := checkParse(t, w, "close EUR 11/10", "close EUR 11/10\n", api.OK)
	checkOf(t, w, x, "EUR", "Fz", rate.Rate{Num: 11, Den: 10}, api.OK)
	checkOf(t, w, x, "USD", "Fz", rate.Rate{Num: 1, Den: 1}, api.OK)
}

// TestNothing asks of texts without lines what it asks of the zero Table.
func TestNothing(t *testing.T) {
	for _, w := range []world{usualWorld(t), otherWorld(t)} {
		for _, s := range []string{"", "\n", " ", "\t \n\n", "#", "# close EUR 1", "\n  # close EUR 1\n#\n", strings.Repeat("\n", 20000)} {
			x := checkParse(t, w, s, "", api.OK)
			if !reflect.DeepEqual(x, Table{}) {
				t.Errorf("Parse(%s) = %v", told(s), x)
			}
		}
		checkOfAll(t, w, Table{}, nil)
		if s := Print(Table{}); s != "" {
			t.Errorf("Print of no rates: %q", s)
		}
	}
}

func TestParseBlanks(t *testing.T) {
	w := usualWorld(t)
	for _, s := range []string{"close EUR 2", "close EUR 2\n", "  close \t EUR\t2\t ", "\n\nclose EUR 2#", "close EUR 2 # close EUR 3\n#close EUR 4", "\tclose\tEUR\t4/2"} {
		checkParse(t, w, s, "close EUR 2\n", api.OK)
	}
	for _, s := range []string{"flow F20 EUR 2", "\tflow\tF20\t\tEUR   10/5 \n", "flow F20 EUR 2#x"} {
		checkParse(t, w, s, "flow F20 EUR 2\n", api.OK)
	}
	checkErrors(t, w, api.ErrForm, "close EUR 4 / 2", "close EUR 4/ 2", "closeEUR 2", "close\nEUR 2", "close EUR\n2", "flow F20 EUR\n2", "close EUR #2", "close #EUR 2", "# \nclose", "flow F20 # EUR 2")
}

func TestParseForms(t *testing.T) {
	w := usualWorld(t)
	for _, head := range []string{"prior", "average", "close"} {
		checkOK(t, w, head+" EUR 2/3\n")
		checkErrors(t, w, api.ErrForm, head, head+" EUR", head+" 1", head+" EUR EUR 1", head+" F20 EUR 1", head+" EUR 1 1", head+" EUR 1 EUR", head+" EUR 1 1 1", head+" 1 EUR")
		for _, other := range []string{"flow", "Flow", "x", head + head, head + "s", head[1:], head[:len(head)-1], strings.ToUpper(head), strings.ToUpper(head[:1]) + head[1:]} {
			checkErrors(t, w, api.ErrForm, other+" EUR 1")
		}
	}
	checkOK(t, w, "flow F20 EUR 2/3\n")
	checkErrors(t, w, api.ErrForm, "flow", "flow F20", "flow F20 EUR", "flow EUR 1", "flow F20 1", "flow F20 EUR 1 1", "flow F20 F20 EUR 1", "flow F20 EUR EUR 1", "flow F20 EUR 1 1 1", "flow 1 F20 EUR", "flow F20 1 EUR")
	for _, other := range []string{"flows", "flo", "low", "FLOW", "Flow", "floww", "prior", "average", "close", "move", "F20", "rate"} {
		checkErrors(t, w, api.ErrForm, other+" F20 EUR 1")
	}
	checkErrors(t, w, api.ErrForm, "1", "EUR", "EUR 1", "EUR close 1", "1 EUR close", "EUR EUR 1", "F20 EUR 1", "F20 flow EUR 1", "rate EUR 1", "closing EUR 1", "open EUR 1", "group EUR 1", "- EUR 1")
}

func TestParseNames(t *testing.T) {
	w := usualWorld(t)
	for _, name := range []string{"E", "e", "z", "Z9", "E.", "E_", "E-", "a0", "eur", longest, "abcdefghijkl", "A-----------", "prior", "average", "close", "flow", "F20", "F00", "usd", "US", "USDT", "bank", "A"} {
		checkOK(t, w, "prior "+name+" 2\n", "average "+name+" 2\n", "close "+name+" 2\n", "flow F20 "+name+" 2\n", "flow "+longest+" "+name+" 2\n")
	}
	for _, name := range []string{
		longest + "x", "Abcdefghijklm", strings.Repeat("E", 13), strings.Repeat("E", 9000), // one longer, and far longer
		"1", "0", "9E", ".E", "_E", "-E", "-", "--", "E/", "E/R", "E,R", "E:", "E!", "(E)", "E+R", "~", "E~", "`", "@", "E@", "E[", "{", "\"E\"", "$", "$E",
	} {
		checkErrors(t, w, api.ErrForm, "prior "+name+" 2", "average "+name+" 2", "close "+name+" 2", "flow F20 "+name+" 2", "flow "+name+" EUR 2", "flow "+name+" "+name+" 2")
	}
}

// TestParseRates tries each form of a rate, and each error of rate.Parse, in lines of each sort.
func TestParseRates(t *testing.T) {
	w := usualWorld(t)
	for _, x := range []struct {
		s, want string
		e       api.Errno
	}{
		{"1", "1", api.OK}, {"7", "7", api.OK}, {"1000000000", "1000000000", api.OK},
		{"1/1", "1", api.OK}, {"2/1", "2", api.OK}, {"1/2", "1/2", api.OK}, {"11/10", "11/10", api.OK}, {"12/10", "6/5", api.OK}, {"6/4", "3/2", api.OK}, {"4/6", "2/3", api.OK}, {"5/5", "1", api.OK},
		{"1/1000000000", "1/1000000000", api.OK}, {"1000000000/999999999", "1000000000/999999999", api.OK}, {"2000000000/2", "1000000000", api.OK}, {"2/2000000000", "1/1000000000", api.OK},
		{"9223372036854775807", "", api.ErrBig}, {"9223372036854775807/9223372036854775807", "1", api.OK},
		{"1000000001", "", api.ErrBig}, {"9999999999", "", api.ErrBig}, {"1/1000000001", "", api.ErrBig}, {"2000000001/2", "", api.ErrBig},
		{"9223372036854775808", "", api.ErrBig}, {"1/9223372036854775808", "", api.ErrBig}, {"-9223372036854775809", "", api.ErrBig}, {strings.Repeat("9", 99), "", api.ErrBig}, {"0/9223372036854775808", "", api.ErrBig},
		{"0", "", api.ErrArg}, {"-1", "", api.ErrArg}, {"1/0", "", api.ErrArg}, {"0/1", "", api.ErrArg}, {"0/0", "", api.ErrArg}, {"1/-1", "", api.ErrArg}, {"-1/-1", "", api.ErrArg}, {"-9223372036854775808", "", api.ErrArg},
		{"x", "", api.ErrForm}, {"1x", "", api.ErrForm}, {"+1", "", api.ErrForm}, {"01", "", api.ErrForm}, {"-0", "", api.ErrForm}, {"1.1", "", api.ErrForm}, {"1,1", "", api.ErrForm}, {"1e3", "", api.ErrForm}, {"0x1", "", api.ErrForm}, {"1_0", "", api.ErrForm},
		{"/", "", api.ErrForm}, {"1/", "", api.ErrForm}, {"/1", "", api.ErrForm}, {"1/2/3", "", api.ErrForm}, {"1//2", "", api.ErrForm}, {"1/x", "", api.ErrForm}, {"1/01", "", api.ErrForm}, {"1:2", "", api.ErrForm}, {"-", "", api.ErrForm}, {"EUR", "", api.ErrForm},
		{"x/0", "", api.ErrForm}, {"0/x", "", api.ErrForm}, {"9223372036854775808/x", "", api.ErrForm},
	} {
		for _, ahead := range []string{"prior EUR ", "average EUR ", "close EUR ", "flow F20 EUR ", "flow F98 EUR "} {
			if x.e != api.OK {
				checkErrors(t, w, x.e, ahead+x.s)
				continue
			}
			checkParse(t, w, ahead+x.s, ahead+x.want+"\n", api.OK)
			checkRead(t, w, ahead+x.s)
		}
	}
}

// TestParseFlows has codes of no flow, and of flows of each kind.
func TestParseFlows(t *testing.T) {
	w := usualWorld(t)
	checkOK(t, w, "flow F15 EUR 2\n", "flow F20 EUR 2\n", "flow F2 EUR 2\n", "flow f20 EUR 2\n", "flow EUR EUR 2\n", "flow USD EUR 2\n", "flow average EUR 2\n", "flow flow EUR 2\n", "flow flow flow 2\n", "flow "+longest+" EUR 2\n", "flow F98 EUR 2\n")
	checkErrors(t, w, api.ErrFlow, "flow F00 EUR 2", "flow F80 EUR 2", "flow F99 EUR 2", "flow F00 F20 2", "flow F99 F99 2")
	for _, none := range []string{"F", "F1", "F16", "F21", "F200", "F20.", "f", "f2", "f15", "F97", "A", "B", "bank", "cap", "CHF", "prior", "close", "open", "move", "fx", "scope", "Flow", "usd", "Abcdefghi.-", "Abcdefghi.--"} {
		checkErrors(t, w, api.ErrName, "flow "+none+" EUR 2", "flow "+none+" F20 2", "flow "+none+" "+none+" 2")
	}
	other := otherWorld(t)
	checkOK(t, other, "flow F00 GBP 2\n", "flow F99 USD 2\n")
	checkErrors(t, other, api.ErrFlow, "flow F15 USD 2", "flow F80 USD 2", "flow F98 USD 2")
	checkErrors(t, other, api.ErrName, "flow f20 USD 2")
}

func TestParseGroup(t *testing.T) {
	w := usualWorld(t)
	checkErrors(t, w, api.ErrArg, "prior USD 1", "average USD 1", "close USD 1", "flow F20 USD 1", "flow F98 USD 1", "flow USD USD 1", "close USD 11/10")
	checkOK(t, w, "close USD. 2\n", "close usd 2\n", "close US 2\n", "close USDX 2\n", "flow USD EUR 2\n", "flow F20 usd 2\n")
	other := otherWorld(t)
	checkErrors(t, other, api.ErrArg, "prior EUR 1", "average EUR 1", "close EUR 1", "flow F20 EUR 1", "flow EUR EUR 1")
	checkOK(t, other, "close USD 2\n", "flow EUR USD 2\n", "flow USD USD 2\n")
	far := worldOf(t, strings.Replace(masterText, "group USD", "group "+longest, 1))
	checkErrors(t, far, api.ErrArg, "close "+longest+" 1", "flow "+longest+" "+longest+" 1")
	checkOK(t, far, "close USD 2\n", "close Abcdefghi.- 2\n", "close abcdefghi.-_ 2\n", "flow "+longest+" USD 2\n")
}

// TestParseTwice has lines with the same words, but for the rate, next to each other and far apart.
func TestParseTwice(t *testing.T) {
	w := usualWorld(t)
	const between = "prior SEK 2\naverage SEK 2\nclose SEK 2\nflow F15 SEK 2\nflow F98 SEK 2\nflow F20 SEK 2\nprior AUD 2\nclose ZAR 2\n"
	for _, ahead := range []string{"prior EUR ", "average EUR ", "close EUR ", "flow F20 EUR ", "flow F98 EUR ", "flow flow flow ", "close " + longest + " "} {
		for _, rates := range [][2]string{{"2", "2"}, {"2", "3"}, {"4/2", "2"}, {"1/3", "3"}} {
			first, second := ahead+rates[0]+"\n", ahead+rates[1]+"\n"
			for _, s := range []string{first + second, first + between + second, between + first + second, first + second + between, first + "\n# x\n" + second, first + second + second} {
				checkParse(t, w, s, "", api.ErrTwice)
			}
		}
	}
	checkParse(t, w, "close EUR 2\n\tclose\tEUR  2 # again\n", "", api.ErrTwice)
}

// TestParseNotTwice has lines that differ in one word.
func TestParseNotTwice(t *testing.T) {
	w := usualWorld(t)
	checkOK(t, w,
		"average EUR 2\nclose EUR 2\n", "average EUR 2\nprior EUR 2\n", "close EUR 2\nprior EUR 2\n", "average EUR 2\nflow F20 EUR 2\n",
		"close EUR 2\nclose eur 2\n", "close EU 2\nclose EUR 2\n", "close EUR 2\nclose EURO 2\n", "prior EUR 2\nprior GBP 2\n", "average EUR 2\naverage GBP 2\n",
		"flow F15 EUR 2\nflow F20 EUR 2\n", "flow F2 EUR 2\nflow F20 EUR 2\n", "flow F20 EUR 2\nflow f20 EUR 2\n", "flow F20 EUR 2\nflow F98 EUR 2\n",
		"flow F20 EUR 2\nflow F20 GBP 2\n", "flow F20 EU 2\nflow F20 EUR 2\n", "flow F2 F20 2\nflow F20 F2 2\n",
		"average F20 2\nflow average F20 2\n", "average EUR 2\nflow EUR average 2\nflow average EUR 2\n",
	)
}

// most answers so many lines of different words, with the currencies C000 and so on, as they are printed.
func most(n int) string {
	var text strings.Builder
	for i := range n {
		fmt.Fprintf(&text, "close C%03d %d\n", i, i+1)
	}
	return text.String()
}

func TestParseMost(t *testing.T) {
	w := usualWorld(t)
	checkOK(t, w, most(499), most(500))
	checkParse(t, w, most(501), "", api.ErrBig)
	checkParse(t, w, most(700), "", api.ErrBig)
	checkRead(t, w, most(500))
	// Of all sorts.
	var lines []string
	for i := range 125 {
		lines = append(lines, fmt.Sprintf("average C%03d 2\n", i), fmt.Sprintf("close C%03d 2/3\n", i), fmt.Sprintf("flow F20 C%03d 4\n", i), fmt.Sprintf("prior C%03d 5\n", i))
	}
	all := strings.Join(lines, "")
	slices.Sort(lines)
	checkParse(t, w, all, strings.Join(lines, ""), api.OK)
	for _, one := range []string{"prior EUR 2", "average EUR 2", "close EUR 2", "flow F20 EUR 2", "flow F15 C007 2"} {
		if e := checkRead(t, w, most(499)+one); e != api.OK {
			t.Errorf("%q behind 499 lines: %d", one, e)
		}
		if e := checkRead(t, w, one+"\n"+most(499)); e != api.OK {
			t.Errorf("%q ahead of 499 lines: %d", one, e)
		}
		checkParse(t, w, most(500)+one, "", api.ErrBig)
		checkParse(t, w, one+"\n"+most(500), "", api.ErrBig)
		checkParse(t, w, all+one, "", api.ErrBig)
	}
	// Lines without words are no lines.
	checkParse(t, w, strings.ReplaceAll(most(500), "\n", "#\n\n \n"), most(500), api.OK)
}

// TestParseMostWrong has something else that is wrong, behind 500 lines.
func TestParseMostWrong(t *testing.T) {
	w := usualWorld(t)
	for _, x := range []struct {
		s string
		e api.Errno
	}{
		{"close EUR", api.ErrForm}, {"closing EUR 1", api.ErrForm}, {"close 1 1", api.ErrForm}, {"close EUR x", api.ErrForm}, {"flow EUR 1", api.ErrForm},
		{"close EUR 0", api.ErrArg}, {"close EUR 1/0", api.ErrArg}, {"close EUR 1000000001", api.ErrBig},
		{"flow F21 EUR 1", api.ErrName}, {"flow F00 EUR 1", api.ErrFlow}, {"flow F80 EUR 1", api.ErrFlow}, {"close USD 1", api.ErrArg}, {"flow F20 USD 1", api.ErrArg},
		{"close C000 1", api.ErrTwice}, {"close C007 8", api.ErrTwice}, {"close C499 3", api.ErrTwice},
		{"close C500 1", api.ErrBig}, {"prior C000 1", api.ErrBig},
	} {
		checkParse(t, w, most(500)+x.s, "", x.e)
		// Behind it there is no other line's error.
		checkParse(t, w, most(500)+x.s+"\nclose C000 1\nclose 1 1\nclose C501 1\n", "", x.e)
		checkParse(t, w, most(501)+x.s, "", api.ErrBig)
	}
}

// TestParseNoText has what lex.Lines tells ahead of all else.
func TestParseNoText(t *testing.T) {
	w := usualWorld(t)
	long := "close EUR 2 #" + strings.Repeat("x", 20000-13)
	checkParse(t, w, long, "close EUR 2\n", api.OK)
	checkParse(t, w, long+"x", "", api.ErrBig)
	checkParse(t, w, long+"\n", "", api.ErrBig)
	checkParse(t, w, strings.Repeat("\n", 20001), "", api.ErrBig)
	checkParse(t, w, long[:19999]+"\x00", "", api.ErrForm)
	checkParse(t, w, long+"\x00", "", api.ErrBig)
	for _, wrong := range []string{"\x00", "\r", "\x0b", "\x1f", "\x7f", "\x80", "\xff", "é", "€", "\u00a0"} {
		for _, s := range []string{"close EUR 2" + wrong, wrong + "close EUR 2", "close E" + wrong + " 2", "close EUR 2 # " + wrong, "# " + wrong, wrong, "close EUR 2\n" + wrong + "\n"} {
			checkParse(t, w, s, "", api.ErrForm)
		}
		// Ahead of what else is wrong, wherever that stands.
		for _, s := range wrongLines {
			checkParse(t, w, s.s+"\n# "+wrong, "", api.ErrForm)
			checkParse(t, w, s.s+strings.Repeat(" ", 20000), "", api.ErrBig)
		}
		checkParse(t, w, most(501)+wrong, "", api.ErrForm)
	}
}

// wrongLines are lines with one thing that is wrong, and its error.
var wrongLines = []struct {
	s string
	e api.Errno
}{
	{"close EUR", api.ErrForm}, {"closing EUR 1", api.ErrForm}, {"close 1 1", api.ErrForm}, {"flow 1 EUR 1", api.ErrForm}, {"close EUR x", api.ErrForm},
	{"close EUR 0", api.ErrArg}, {"close EUR 1000000001", api.ErrBig}, {"flow F20 EUR 0", api.ErrArg},
	{"flow F21 EUR 1", api.ErrName}, {"flow F00 EUR 1", api.ErrFlow}, {"flow F80 EUR 1", api.ErrFlow}, {"flow F99 EUR 1", api.ErrFlow},
	{"close USD 1", api.ErrArg}, {"flow F20 USD 1", api.ErrArg}, {"prior GBP 2", api.ErrTwice}, {"flow F15 GBP 2", api.ErrTwice},
}

// TestParseFirstLine has more than one wrong line: the first one counts.
func TestParseFirstLine(t *testing.T) {
	w := usualWorld(t)
	const right = "prior GBP 2\nflow F15 GBP 3\n"
	for _, x := range wrongLines {
		checkParse(t, w, right+x.s, "", x.e)
		for _, y := range wrongLines {
			checkParse(t, w, right+x.s+"\n"+y.s, "", x.e)
			checkParse(t, w, right+x.s+"\nclose GBP 4\n"+y.s+"\n", "", x.e)
		}
	}
}

// TestParseFirstInLine has more than one thing that is wrong in a line: the
// first one by the chapter's words counts.
func TestParseFirstInLine(t *testing.T) {
	w := usualWorld(t)
	for _, x := range []struct {
		s string
		e api.Errno
	}{
		// The form, or a name, and the rate, the flow, the group's currency.
		{"close 1 0", api.ErrForm}, {"close 1 1000000001", api.ErrForm}, {"close USD", api.ErrForm}, {"closing USD 0", api.ErrForm}, {"close USD 0 0", api.ErrForm},
		{"flow 1 EUR 0", api.ErrForm}, {"flow F20 1 1000000001", api.ErrForm}, {"flow F21 1 1", api.ErrForm}, {"flow 1 USD 1", api.ErrForm}, {"flow F00 1 1", api.ErrForm}, {"flow F21 EUR", api.ErrForm}, {"flow F00 USD", api.ErrForm}, {"flow F21 EUR 0 0", api.ErrForm},
		// The rate, and the flow, the group's currency.
		{"flow F21 EUR x", api.ErrForm}, {"flow F21 EUR 0", api.ErrArg}, {"flow F21 EUR 1000000001", api.ErrBig},
		{"flow F00 EUR x", api.ErrForm}, {"flow F00 EUR 0", api.ErrArg}, {"flow F80 EUR 1000000001", api.ErrBig},
		{"close USD x", api.ErrForm}, {"close USD 1000000001", api.ErrBig}, {"flow F20 USD x", api.ErrForm}, {"flow F20 USD 1000000001", api.ErrBig},
		// The flow, and the group's currency.
		{"flow F21 USD 1", api.ErrName}, {"flow F00 USD 1", api.ErrFlow}, {"flow F80 USD 1", api.ErrFlow}, {"flow F99 USD 1", api.ErrFlow}, {"flow F21 USD 0", api.ErrArg},
	} {
		checkErrors(t, w, x.e, x.s)
	}
	// A line that was ahead, and the rate.
	for _, ahead := range []string{"prior EUR ", "average EUR ", "close EUR ", "flow F20 EUR "} {
		checkErrors(t, w, api.ErrForm, ahead+"1\n"+ahead+"x")
		checkErrors(t, w, api.ErrArg, ahead+"1\n"+ahead+"0")
		checkErrors(t, w, api.ErrBig, ahead+"1\n"+ahead+"1000000001")
		checkErrors(t, w, api.ErrTwice, ahead+"1\n"+ahead+"1")
	}
}

// pieces are what short texts are laid of.
var pieces = []string{"close", "average", "prior", "flow", "EUR", "USD", "F20", "F00", "1", "0", "\n"}

// TestParseShort holds Parse against P14.1 for all short texts of the pieces
// that matter, and for all short texts of whole lines.
func TestParseShort(t *testing.T) {
	w := usualWorld(t)
	answers := map[api.Errno]int{}
	each(pieces, 5, func(l []string) {
		s := strings.Join(l, " ")
		table, wantE := wantParse(w, s)
		answers[wantE]++
		if x, e := Parse(w.m, s); e != wantE || Print(x) != wantPrint(table) {
			t.Errorf("Parse(%q) = %q, %d; want %q, %d", s, Print(x), e, wantPrint(table), wantE)
		}
	})
	lines := []string{"close EUR 1", "close EUR 2", "close eur 1", "prior EUR 1", "average EUR 3/2", "flow F20 EUR 4", "flow F98 EUR 5", "flow F20 GBP 6", "close USD 1", "flow F21 EUR 1", "flow F80 EUR 1", "close EUR"}
	each(lines, 4, func(l []string) {
		s := strings.Join(l, "\n")
		table, wantE := wantParse(w, s)
		answers[wantE]++
		if x, e := Parse(w.m, s); e != wantE || Print(x) != wantPrint(table) {
			t.Errorf("Parse(%q) = %q, %d; want %q, %d", s, Print(x), e, wantPrint(table), wantE)
		}
	})
	for _, e := range []api.Errno{api.OK, api.ErrForm, api.ErrArg, api.ErrName, api.ErrFlow, api.ErrTwice} {
		if answers[e] < 10 {
			t.Errorf("the test's own: %d is told %d times", e, answers[e])
		}
	}
}

// each tells all lists of up to most of l's.
func each(l []string, most int, tell func([]string)) {
	var longer func(some []string)
	longer = func(some []string) {
		tell(some)
		if len(some) == most {
			return
		}
		for _, one := range l {
			longer(append(slices.Clip(some), one))
		}
	}
	longer(nil)
}

// TestParseEachByte lays each byte at each place of a text, in place of another and between.
func TestParseEachByte(t *testing.T) {
	w := usualWorld(t)
	const text = "close EUR 12/10 # x\nprior GBP 1\n\tflow F20 EUR 7\nflow F98 GBP 3\naverage USd 5\n"
	answers := map[api.Errno]int{}
	for at := range len(text) + 1 {
		for b := range 256 {
			texts := []string{text[:at] + string([]byte{byte(b)}) + text[at:]}
			if at < len(text) {
				texts = append(texts, text[:at]+string([]byte{byte(b)})+text[at+1:])
			}
			for _, s := range texts {
				table, wantE := wantParse(w, s)
				answers[wantE]++
				if x, e := Parse(w.m, s); e != wantE || Print(x) != wantPrint(table) {
					t.Errorf("Parse(%q) = %q, %d; want %q, %d", s, Print(x), e, wantPrint(table), wantE)
				}
			}
		}
	}
	for _, e := range []api.Errno{api.OK, api.ErrForm, api.ErrArg, api.ErrName} {
		if answers[e] < 10 {
			t.Errorf("the test's own: %d is told %d times", e, answers[e])
		}
	}
}

// TestOf asks for a currency that has a line of each sort alone, the line of a
// flow beside that of average, and none.
func TestOf(t *testing.T) {
	w := usualWorld(t)
	one := func(n int64) rate.Rate { return rate.Rate{Num: n, Den: 1} }
	flows := []string{"F00", "F15", "F20", "F98", "F99"}
	for _, c := range []struct {
		s    string
		want [5]int64 // by flows; 0: ErrRate
	}{
		{"", [5]int64{}},
		{"prior EUR 2", [5]int64{2, 0, 0, 0, 0}},
		{"average EUR 3", [5]int64{0, 3, 3, 3, 0}},
		{"close EUR 4", [5]int64{0, 0, 0, 0, 4}},
		{"flow F15 EUR 5", [5]int64{0, 5, 0, 0, 0}},
		{"flow F20 EUR 6", [5]int64{0, 0, 6, 0, 0}},
		{"flow F98 EUR 7", [5]int64{0, 0, 0, 7, 0}},
		{"average EUR 3\nflow F15 EUR 5", [5]int64{0, 5, 3, 3, 0}},
		{"flow F20 EUR 6\naverage EUR 3", [5]int64{0, 3, 6, 3, 0}},
		{"flow F98 EUR 7\naverage EUR 3", [5]int64{0, 3, 3, 7, 0}},
		{"flow F98 EUR 7\nflow F20 EUR 6\nflow F15 EUR 5", [5]int64{0, 5, 6, 7, 0}},
		{"prior EUR 2\naverage EUR 3\nclose EUR 4", [5]int64{2, 3, 3, 3, 4}},
		{"prior EUR 2\naverage EUR 3\nclose EUR 4\nflow F15 EUR 5\nflow F20 EUR 6\nflow F98 EUR 7", [5]int64{2, 5, 6, 7, 4}},
		{"average EUR 1\nflow F20 EUR 1\nclose EUR 1\nprior EUR 1", [5]int64{1, 1, 1, 1, 1}},
		// Another's.
		{"prior GBP 2\naverage GBP 3\nclose GBP 4\nflow F15 GBP 5", [5]int64{}},
		{"prior EU 2\naverage EURO 3\nclose eur 4\nflow F15 EUR. 5", [5]int64{}},
		{"average EUR 3\nflow F15 GBP 5\nflow F2 EUR 6\nflow f20 EUR 7\nflow EUR EUR 8", [5]int64{0, 3, 3, 3, 0}},
		{"prior F00 2\nclose F99 4\nflow F20 F20 5\nflow EUR EUR 6", [5]int64{}},
		{"prior GBP 2\naverage EUR 3\nclose GBP 4\nflow F15 EUR 5", [5]int64{0, 5, 3, 3, 0}},
	} {
		x, e := Parse(w.m, c.s)
		if e != api.OK {
			t.Fatalf("Parse(%q): %d", c.s, e)
		}
		for i, code := range flows {
			want, wantE := one(c.want[i]), api.OK
			if c.want[i] == 0 {
				want, wantE = rate.Rate{}, api.ErrRate
			}
			checkOf(t, w, x, "EUR", code, want, wantE)
			checkOf(t, w, x, "USD", code, one(1), api.OK)
		}
		for _, currency := range currencies {
			checkOf(t, w, x, currency, "F80", rate.Rate{}, api.ErrFlow)
			for _, none := range []string{"", "F", "F21", "F200", "F0", "bank", "EURO", "prior", "close", "\xff"} {
				checkOf(t, w, x, currency, none, rate.Rate{}, api.ErrName)
			}
		}
		checkRead(t, w, c.s)
		if n := strings.NewReplacer("EUR", "USD", "USD", "EUR").Replace(c.s); n != "" {
			checkRead(t, otherWorld(t), n)
		}
	}
}

// TestOfOtherMasters asks by master data of other flows, and of another currency.
func TestOfOtherMasters(t *testing.T) {
	w := otherWorld(t)
	x := checkParse(t, w, "prior USD 2\naverage USD 3\nclose USD 4\nflow F00 USD 5\nflow F99 USD 6\n", "average USD 3\nclose USD 4\nflow F00 USD 5\nflow F99 USD 6\nprior USD 2\n", api.OK)
	for code, want := range map[string]int64{"F15": 2, "F80": 4, "F00": 5, "F99": 6, "F20": 3, "USD": 3} {
		checkOf(t, w, x, "USD", code, rate.Rate{Num: want, Den: 1}, api.OK)
		checkOf(t, w, x, "EUR", code, rate.Rate{Num: 1, Den: 1}, api.OK)
	}
	checkOf(t, w, x, "EUR", "F98", rate.Rate{}, api.ErrFlow)
	checkOf(t, w, x, "EUR", "f20", rate.Rate{}, api.ErrName)
}

func TestPrint(t *testing.T) {
	w := usualWorld(t)
	for _, x := range []struct{ s, want string }{
		{"prior EUR 1\nflow F20 EUR 2\nclose EUR 3\naverage EUR 4\n", "average EUR 4\nclose EUR 3\nflow F20 EUR 2\nprior EUR 1\n"},
		// Upper case is ahead of lower case, and digits are ahead of both.
		{"close b 1\nclose B 1\nclose a 1\nclose A 1\nclose Z 1\nclose z 1\n", "close A 1\nclose B 1\nclose Z 1\nclose a 1\nclose b 1\nclose z 1\n"},
		{"close Ab 1\nclose AB 1\nclose A1 1\nclose A_ 1\nclose A. 1\nclose A- 1\nclose A0 1\n", "close A- 1\nclose A. 1\nclose A0 1\nclose A1 1\nclose AB 1\nclose A_ 1\nclose Ab 1\n"},
		{"close E10 1\nclose E9 1\nclose E1 1\nclose E2 1\n", "close E1 1\nclose E10 1\nclose E2 1\nclose E9 1\n"},
		// Words of which one begins the other.
		{"close EURO 1\nclose EUR 1\nclose EU 1\nclose E 1\n", "close E 1\nclose EU 1\nclose EUR 1\nclose EURO 1\n"},
		{"flow F20 EU 1\nflow F2 EUR 1\nflow F20 EUR 1\nflow F2 EU 1\n", "flow F2 EU 1\nflow F2 EUR 1\nflow F20 EU 1\nflow F20 EUR 1\n"},
		// The flow counts ahead of the currency.
		{"flow F98 CHF 1\nflow F15 GBP 1\nflow F20 EUR 1\nflow f20 ARS 1\nflow average ZAR 1\n", "flow F15 GBP 1\nflow F20 EUR 1\nflow F98 CHF 1\nflow average ZAR 1\nflow f20 ARS 1\n"},
		{"prior AUD 1\naverage ZAR 1\nflow F20 AUD 1\nclose BRL 1\nprior ARS 1\naverage AUD 1\n", "average AUD 1\naverage ZAR 1\nclose BRL 1\nflow F20 AUD 1\nprior ARS 1\nprior AUD 1\n"},
		// Rates count nothing in the order, and are told as rate.Print tells them.
		{"close C 1\nclose B 2\nclose A 10\n", "close A 10\nclose B 2\nclose C 1\n"},
		{"close A 10/4\nclose B 4/2\nclose C 1/3\nclose D 1000000000/3\nclose E 8/8\n", "close A 5/2\nclose B 2\nclose C 1/3\nclose D 1000000000/3\nclose E 1\n"},
	} {
		checkParse(t, w, x.s, x.want, api.OK)
		checkRead(t, w, x.s)
	}
}

// TestPrintIsOfRates has each rate of a table printed as rate.Print does.
func TestPrintIsOfRates(t *testing.T) {
	w := usualWorld(t)
	r := rand.New(rand.NewSource(5))
	for range 500 {
		num, den := 1+r.Int63n(1_000_000_000), 1+r.Int63n(1_000_000_000)
		x, e := Parse(w.m, fmt.Sprintf("average GBP %d/%d", num, den))
		want, _ := rate.Make(num, den)
		if s := Print(x); e != api.OK || s != "average GBP "+rate.Print(want)+"\n" {
			t.Errorf("Parse of %d/%d: %q, %d", num, den, s, e)
		}
		checkOf(t, w, x, "GBP", "F20", want, api.OK)
	}
}

// anyLines answers lines of different words that may be in a table of masterText's master data.
func anyLines(r *rand.Rand, most int) []string {
	pick := func(l ...string) string { return l[r.Intn(len(l))] }
	seen := map[string]int{}
	var l []string
	for range r.Intn(most + 1) {
		ahead := pick("prior", "average", "close", "flow "+pick("F15", "F20", "F2", "f20", "EUR", "USD", "average", "flow", longest, "F98"))
		ahead += " " + pick("EUR", "GBP", "CHF", "eur", "EU", "EURO", "F20", "prior", longest, fmt.Sprintf("C%03d", r.Intn(300)))
		if seen[ahead]++; seen[ahead] == 1 {
			l = append(l, fmt.Sprintf("%s %s", ahead, pick("1", "7", "3/2", "10/4", "1000000000", "1/1000000000", fmt.Sprintf("%d/%d", 1+r.Intn(99), 1+r.Intn(99)))))
		}
	}
	return l
}

// TestBack asks P14.4: tables come back from their texts, whatever the order of their lines.
func TestBack(t *testing.T) {
	w := usualWorld(t)
	r := rand.New(rand.NewSource(1))
	for i := range 400 {
		l := anyLines(r, 1+i%60)
		s := strings.Join(l, "\n")
		x, e := Parse(w.m, s)
		if e != api.OK {
			t.Fatalf("Parse(%q): %d", s, e)
		}
		checkRead(t, w, s)
		for range 5 {
			r.Shuffle(len(l), func(i, j int) { l[i], l[j] = l[j], l[i] })
			other, e := Parse(w.m, "# x\n"+strings.Join(l, " # x\n\n\t"))
			if e != api.OK || !reflect.DeepEqual(x, other) || Print(other) != Print(x) {
				t.Errorf("Parse(%q) = %q, %d; want %q", l, Print(other), e, Print(x))
			}
		}
	}
	// All orders of few lines.
	few := []string{"close EUR 1", "prior EUR 2", "flow F20 EUR 3/2", "average GBP 5"}
	x, _ := Parse(w.m, strings.Join(few, "\n"))
	each(few, 4, func(l []string) {
		if len(l) < 4 || len(slices.Compact(slices.Sorted(slices.Values(l)))) < 4 {
			return
		}
		if other, e := Parse(w.m, strings.Join(l, "\n")); e != api.OK || !reflect.DeepEqual(x, other) {
			t.Errorf("Parse(%q) = %q, %d", l, Print(other), e)
		}
	})
}

// TestBackUnlike asks that tables that are not the same have not the same text.
func TestBackUnlike(t *testing.T) {
	w := usualWorld(t)
	r := rand.New(rand.NewSource(3))
	tables := map[string]Table{}
	for range 3000 {
		x, e := Parse(w.m, strings.Join(anyLines(r, 3), "\n"))
		if other, is := tables[Print(x)]; e != api.OK || is && !reflect.DeepEqual(x, other) {
			t.Errorf("%v and %v have the text %q", x, other, Print(x))
		}
		tables[Print(x)] = x
	}
}

// TestBackLongest has a table whose text is as long as it may be, and one whose
// is one byte longer: that was read without an end behind its last line.
func TestBackLongest(t *testing.T) {
	w := usualWorld(t)
	var lines strings.Builder
	for i := range 500 {
		fmt.Fprintf(&lines, "close Abcdefghi%03d 1000000000/999999999\n", i)
	}
	text := lines.String()
	if len(text) != 20000 {
		t.Fatalf("the test's own: %d bytes", len(text))
	}
	checkOK(t, w, text)
	checkRead(t, w, text)
	longer := strings.Replace(text, "close Abcdefghi000", "average Abcdefghi00", 1)
	checkParse(t, w, longer[:20000], longer, api.OK)
	checkParse(t, w, longer, "", api.ErrBig)
}

// TestAnew changes nothing by asking, and asks again: nothing is kept from one call to another.
func TestAnew(t *testing.T) {
	w, other := usualWorld(t), otherWorld(t)
	x, _ := Parse(w.m, usualText)
	y, _ := Parse(other.m, "close USD 3\naverage CHF 4\nflow F99 CHF 5\n")
	table, _ := wantParse(w, usualText)
	otherTable, _ := wantParse(other, "close USD 3\naverage CHF 4\nflow F99 CHF 5\n")
	z := x
	unchanged(t, w.m, []Table{x, y, z, {}}, func() {
		for range 3 {
			checkOfAll(t, w, x, table)
			checkOfAll(t, other, y, otherTable)
			checkRead(t, w, most(500))
			checkRead(t, w, usualText+"close EUR 2")
			checkRead(t, w, usualText+"close JPY 2")
			checkRead(t, other, "close USD 2")
			checkOfAll(t, w, z, table)
		}
	})
}

// TestNoMasters calls with master data that no text tells, and with tables
// that were read by other master data: nothing is asked but that the calls
// end, change nothing, have nothing beside an error, and answer the same again.
func TestNoMasters(t *testing.T) {
	r := rand.New(rand.NewSource(4))
	some := []string{"", "A", "EUR", "USD", "GBP", "F00", "F20", "F99", "F", "é", "\xff", " ", "flow", strings.Repeat("x", 100)}
	anyName := func() string { return some[r.Intn(len(some))] }
	usual := usualWorld(t)
	other := otherWorld(t)
	back := slices.Clone(usual.m.Flows)
	slices.Reverse(back)
	masters := []unit.Master{
		{}, usual.m, other.m, {Currency: "EUR"}, {Flows: usual.m.Flows}, {Flows: back, Currency: "USD"}, {Flows: slices.Concat(usual.m.Flows, usual.m.Flows)},
		{Flows: flow.List{{}}}, {Flows: flow.List{{Code: "", Kind: api.Move}}}, {Flows: flow.List{{Code: "F20", Kind: -1}}}, {Flows: flow.List{{Code: "F20", Kind: 9}}, Currency: "\xff"},
		{Flows: flow.List{{Code: "F20", Kind: api.Move}, {Code: "F20", Kind: api.Open}}},
	}
	for range 300 {
		m := unit.Master{Currency: anyName(), Reserve: anyName()}
		for range r.Intn(9) {
			m.Chart = append(m.Chart, chart.Account{Code: anyName(), Class: r.Intn(6) - 2})
			m.Flows = append(m.Flows, flow.Flow{Code: anyName(), Kind: r.Intn(9) - 2})
		}
		masters = append(masters, m)
	}
	tables := []Table{{}}
	for _, s := range []string{usualText, most(500), "close EUR 2", "flow F20 EUR 3", "average EUR 2"} {
		x, _ := Parse(usual.m, s)
		tables = append(tables, x)
	}
	x, _ := Parse(other.m, "close USD 3\naverage USD 4\nflow F00 USD 5\nflow F99 USD 6\nprior USD 7")
	tables = append(tables, x)
	for _, m := range masters {
		unchanged(t, m, tables, func() {
			for _, s := range []string{"", usualText, "close EUR 1", "flow F20 EUR 2", "flow F 1", "\xff", most(501)} {
				checkParseEnds(t, m, s)
			}
			for _, x := range tables {
				for _, currency := range some {
					checkOfEnds(t, m, x, currency, anyName())
				}
			}
		})
	}
}

func checkParseEnds(t *testing.T, m unit.Master, s string) {
	t.Helper()
	x, e := Parse(m, s)
	again, eAgain := Parse(m, s)
	if e != eAgain || !reflect.DeepEqual(x, again) || e != api.OK && !reflect.DeepEqual(x, Table{}) {
		t.Errorf("Parse(%s) = %s, %d, and %s, %d", told(s), told(Print(x)), e, told(Print(again)), eAgain)
	}
}

func checkOfEnds(t *testing.T, m unit.Master, x Table, currency, code string) {
	t.Helper()
	r, e := Of(m, x, currency, code)
	again, eAgain := Of(m, x, currency, code)
	if e != eAgain || r != again || e != api.OK && r != (rate.Rate{}) || e == api.OK && !rate.Right(r) {
		t.Errorf("Of(%s, %q, %q) = %v, %d, and %v, %d", told(Print(x)), currency, code, r, e, again, eAgain)
	}
}

// FuzzParse holds all calls against the chapter's words.
func FuzzParse(f *testing.F) {
	for _, s := range []string{"", usualText, "close EUR 11/10", "flow F20 EUR 7\nflow F98 GBP 3\nflow F00 EUR 1", "close USD 1", "prior EUR 1\nprior EUR 2", "average EUR 0", "close EUR 9999999999 # x\n\t"} {
		f.Add(s)
	}
	w := usualWorld(f)
	f.Fuzz(func(t *testing.T, s string) {
		checkRead(t, w, s)
	})
}

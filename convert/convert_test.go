package convert

import (
	"fmt"
	"math"
	"math/big"
	"math/rand"
	"slices"
	"strconv"
	"strings"
	"testing"

	"comptroller/api"
	"comptroller/chart"
	"comptroller/control"
	"comptroller/course"
	"comptroller/fact"
	"comptroller/flow"
	"comptroller/unit"
)

const (
	least    = math.MinInt64
	greatest = math.MaxInt64
)

// masterText is the text of ordinary master data. The entities P to S are of
// currencies that have no more than one line of ratesText each.
const masterText = `group USD
account bank asset cash
account due asset mutual
account owe liability mutual
account loan liability
account cap equity
account res equity
account sub equity
account dif asset
account plant asset fixed mach
flow F99 close
flow F00 open
flow F20 move
flow F15 move
flow F02 move
flow F80 fx
flow F98 scope
entity B EUR
entity A USD
entity C GBP
entity D EUR
entity G USD
entity N CHF
entity P PPP
entity Q QQQ
entity R RRR
entity S SSS
reserve res
minor cap
differ dif
stake dif
`

const ratesText = `prior EUR 1
average EUR 2
close EUR 3
flow F15 EUR 5/2
flow F98 EUR 7/3
prior GBP 3/2
average GBP 1/3
close GBP 1/2
flow F02 GBP 1000000000
prior PPP 2
average QQQ 2
close RRR 2
flow F20 SSS 2
`

// world is master data and a table of rates, and what the test itself reads in
// their texts: what accounts, flows and entities are by their words, and rates
// by the words ahead of them.
type world struct {
	m                          unit.Master
	t                          course.Table
	kinds, classes, currencies map[string]string
	group, reserve             string
	rates                      map[string]*big.Rat
}

func worldOf(t testing.TB, master, rates string) world {
	t.Helper()
	m, e := unit.Parse(master)
	if e != api.OK {
		t.Fatalf("master data: %d", e)
	}
	x, e := course.Parse(m, rates)
	if e != api.OK {
		t.Fatalf("rates: %d", e)
	}
	w := world{m: m, t: x, kinds: map[string]string{}, classes: map[string]string{}, currencies: map[string]string{}, rates: map[string]*big.Rat{}}
	for line := range strings.Lines(master) {
		words := strings.Fields(line)
		switch words[0] {
		case "flow":
			w.kinds[words[1]] = words[2]
		case "account":
			w.classes[words[1]] = words[2]
		case "entity":
			w.currencies[words[1]] = words[2]
		case "group":
			w.group = words[1]
		case "reserve":
			w.reserve = words[1]
		}
	}
	for line := range strings.Lines(rates) {
		at := strings.LastIndex(line, " ")
		r, is := new(big.Rat).SetString(strings.TrimSpace(line[at:]))
		if !is {
			t.Fatalf("the test's own: the rate of %q", line)
		}
		w.rates[line[:at]] = r
	}
	return w
}

func usualWorld(t testing.TB) world {
	t.Helper()
	return worldOf(t, masterText, ratesText)
}

// otherWorlds have codes by which flows, and the reserve, stand elsewhere
// among the others, a reserve that is the minority's account too, and the
// group's currency is another.
func otherWorlds(t testing.TB) []world {
	t.Helper()
	var l []world
	for _, r := range []*strings.Replacer{
		strings.NewReplacer("flow F80", "flow F01"),                                     // differences ahead of all movements
		strings.NewReplacer("flow F80", "flow A"),                                       // ahead of what opens
		strings.NewReplacer("flow F80", "flow Z"),                                       // behind what closes
		strings.NewReplacer("flow F00", "flow F97", "F99", "F01"),                       // what closes ahead of what opens
		strings.NewReplacer("account res", "account all", "reserve res", "reserve all"), // the reserve ahead of all accounts
		strings.NewReplacer("account res", "account zzz", "reserve res", "reserve zzz"), // behind them
		strings.NewReplacer("reserve res", "reserve cap"),
		strings.NewReplacer("flow F80", "flow bank", "account res", "account F80", "reserve res", "reserve F80"), // names of other things
	} {
		l = append(l, worldOf(t, r.Replace(masterText), ratesText))
	}
	euros := strings.NewReplacer("prior EUR", "prior USD", "average EUR", "average USD", "close EUR", "close USD", "F15 EUR", "F15 USD", "F98 EUR", "F98 USD")
	return append(l, worldOf(t, strings.Replace(masterText, "group USD", "group EUR", 1), euros.Replace(ratesText)))
}

// codeOf answers the code of w's flow of a kind of which there is but one.
func (w world) codeOf(kind string) string {
	for code, other := range w.kinds {
		if other == kind {
			return code
		}
	}
	panic(kind)
}

// factOf answers the fact of a line: Entity, Account, Flow, Partner, Mark and Amount; "-" is "".
func factOf(line string) fact.Fact {
	words := strings.Fields(line)
	for i, word := range words {
		if word == "-" {
			words[i] = ""
		}
	}
	mark, err := strconv.Atoi(words[4])
	if err != nil {
		panic(line)
	}
	amount, err := strconv.ParseInt(words[5], 10, 64)
	if err != nil {
		panic(line)
	}
	return fact.Fact{Key: fact.Key{Entity: words[0], Account: words[1], Flow: words[2], Partner: words[3], Mark: mark}, Amount: amount}
}

// factsOf answers the facts of lines, which may be many in one text, as they come.
func factsOf(lines ...string) []fact.Fact {
	var l []fact.Fact
	for line := range strings.Lines(strings.Join(lines, "\n")) {
		if strings.TrimSpace(line) != "" {
			l = append(l, factOf(line))
		}
	}
	return l
}

// cubeOf answers the cube of lines, which may stand in any order.
func cubeOf(t testing.TB, lines ...string) fact.Cube {
	t.Helper()
	return cubeOfFacts(t, factsOf(lines...))
}

func cubeOfFacts(t testing.TB, l []fact.Fact) fact.Cube {
	t.Helper()
	c, e := fact.Of(l)
	if e != api.OK || !fact.Right(c) {
		t.Fatalf("the test's own: no cube: %d of %s", e, shown(l))
	}
	return c
}

// shown answers what it is given so that each byte can be seen; only the beginning, if it is long.
func shown(what any) string {
	s := fmt.Sprintf("%q", fmt.Sprintf("%+v", what))
	return s[:min(len(s), 800)]
}

// wantRate answers the rate of a currency by a flow.
func wantRate(w world, currency, code string) (*big.Rat, api.Errno) {
	var ahead []string
	switch w.kinds[code] {
	case "":
		return nil, api.ErrName
	case "fx":
		return nil, api.ErrFlow
	case "open":
		ahead = []string{"prior " + currency}
	case "close":
		ahead = []string{"close " + currency}
	default:
		ahead = []string{"flow " + code + " " + currency, "average " + currency}
	}
	if currency == w.group {
		return big.NewRat(1, 1), api.OK
	}
	for _, words := range ahead {
		if r := w.rates[words]; r != nil {
			return r, api.OK
		}
	}
	return nil, api.ErrRate
}

// rounded answers the nearest whole number, of two that are as near the one farther from 0.
func rounded(r *big.Rat) *big.Int {
	twice := new(big.Int).Mul(new(big.Int).Abs(r.Num()), big.NewInt(2))
	twice.Add(twice, r.Denom())
	n := twice.Div(twice, new(big.Int).Mul(r.Denom(), big.NewInt(2)))
	if r.Sign() < 0 {
		n.Neg(n)
	}
	return n
}

// wantRates answers what P15.1 asks of Rates.
func wantRates(w world, c fact.Cube) (fact.Cube, api.Errno) {
	var l []fact.Fact
	for _, f := range c {
		currency := w.currencies[f.Key.Entity]
		if currency == "" {
			return nil, api.ErrName
		}
		r, e := wantRate(w, currency, f.Key.Flow)
		if e != api.OK {
			return nil, e
		}
		n := rounded(new(big.Rat).Mul(r, new(big.Rat).SetInt64(f.Amount)))
		if !n.IsInt64() {
			return nil, api.ErrOver
		}
		l = append(l, fact.Fact{Key: f.Key, Amount: n.Int64()})
	}
	return fact.Of(l)
}

// running is a sum of numbers of any size, and whether it fitted on the way.
type running struct {
	sum  big.Int
	over bool
}

func (r *running) add(amount int64, plus bool) {
	a := big.NewInt(amount)
	if !plus {
		a.Neg(a)
	}
	r.over = r.over || !r.sum.Add(&r.sum, a).IsInt64()
}

// place is whose, of which account, with whom.
type place struct{ entity, account, partner string }

// wantGaps answers the gap of each place of c; false, if one does not fit.
func wantGaps(w world, c fact.Cube) (map[place]int64, bool) {
	sums := map[place]*running{}
	for _, f := range c {
		p := place{f.Key.Entity, f.Key.Account, f.Key.Partner}
		if sums[p] == nil {
			sums[p] = new(running)
		}
		if w.kinds[f.Key.Flow] != "" && w.classes[p.account] != "" {
			sums[p].add(f.Amount, w.kinds[f.Key.Flow] == "close")
		}
	}
	gaps := map[place]int64{}
	for p, r := range sums {
		if r.over {
			return nil, false
		}
		gaps[p] = r.sum.Int64()
	}
	return gaps, true
}

// wantEven answers what P15.2 asks of Even.
func wantEven(w world, c fact.Cube) (fact.Cube, api.Errno) {
	gaps, fit := wantGaps(w, c)
	if !fit {
		return nil, api.ErrOver
	}
	l := slices.Clone(c)
	for p, gap := range gaps {
		l = append(l, fact.Fact{Key: fact.Key{Entity: p.entity, Account: p.account, Flow: w.codeOf("fx"), Partner: p.partner, Mark: 2}, Amount: gap})
	}
	return fact.Of(l)
}

// wantWeigh answers what an entity's assets by flows of a kind are more than
// its liabilities and equity; false, if that does not fit.
func wantWeigh(w world, c fact.Cube, entity, kind string) (int64, bool) {
	var r running
	for _, f := range c {
		if f.Key.Entity == entity && w.kinds[f.Key.Flow] == kind && w.classes[f.Key.Account] != "" {
			r.add(f.Amount, w.classes[f.Key.Account] == "asset")
		}
	}
	return r.sum.Int64(), !r.over
}

// wantSeal answers what P15.2 asks of Seal.
func wantSeal(w world, c fact.Cube) (fact.Cube, api.Errno) {
	entities := map[string]int{}
	for _, f := range c {
		if w.currencies[f.Key.Entity] == "" {
			return nil, api.ErrName
		}
		entities[f.Key.Entity]++
	}
	l := slices.Clone(c)
	for entity := range entities {
		for _, kind := range []string{"open", "close"} {
			n, fits := wantWeigh(w, c, entity, kind)
			if !fits {
				return nil, api.ErrOver
			}
			l = append(l, fact.Fact{Key: fact.Key{Entity: entity, Account: w.reserve, Flow: w.codeOf(kind), Mark: 2}, Amount: n})
		}
	}
	balanced, e := fact.Of(l)
	if e != api.OK {
		return nil, e
	}
	return wantEven(w, balanced)
}

// wantTo answers what P15.3 asks of To.
func wantTo(w world, c fact.Cube) (fact.Cube, api.Errno) {
	d, e := wantRates(w, c)
	if e != api.OK {
		return nil, e
	}
	return wantSeal(w, d)
}

// call is one of the four, as the program has it and as the chapter's words ask for it.
type call struct {
	name string
	is   func(w world, c fact.Cube) (fact.Cube, api.Errno)
	want func(w world, c fact.Cube) (fact.Cube, api.Errno)
}

var (
	rates = call{"Rates", func(w world, c fact.Cube) (fact.Cube, api.Errno) { return Rates(w.m, w.t, c) }, wantRates}
	even  = call{"Even", func(w world, c fact.Cube) (fact.Cube, api.Errno) { return Even(w.m, c) }, wantEven}
	seal  = call{"Seal", func(w world, c fact.Cube) (fact.Cube, api.Errno) { return Seal(w.m, c) }, wantSeal}
	to    = call{"To", func(w world, c fact.Cube) (fact.Cube, api.Errno) { return To(w.m, w.t, c) }, wantTo}
	calls = []call{rates, even, seal, to}
)

// same tells whether both are the same master data.
func same(a, b unit.Master) bool {
	return slices.Equal(a.Chart, b.Chart) && slices.Equal(a.Flows, b.Flows) && slices.Equal(a.Entities, b.Entities) && slices.Equal(a.Lines, b.Lines) &&
		a.Currency == b.Currency && a.Reserve == b.Reserve && a.Differ == b.Differ && a.Minor == b.Minor && a.Stake == b.Stake
}

// copied answers master data that share no list with m.
func copied(m unit.Master) unit.Master {
	m.Chart, m.Flows = slices.Clone(m.Chart), slices.Clone(m.Flows)
	m.Entities, m.Lines = slices.Clone(m.Entities), slices.Clone(m.Lines)
	return m
}

// room answers c with place for more facts behind it, which is not the callee's to use.
func room(c fact.Cube) fact.Cube {
	more := make(fact.Cube, len(c)+5)
	for i := copy(more, c); i < len(more); i++ {
		more[i] = spare
	}
	return more[:len(c)]
}

// spare is what stands in a cube's place for more.
var spare = fact.Fact{Key: fact.Key{Entity: "spare"}, Amount: 77}

// spoil changes what was answered, also behind its end: it is the caller's.
func spoil(c fact.Cube) {
	c = c[:cap(c)]
	for i := range c {
		c[i] = fact.Fact{Amount: 99}
	}
}

// ask calls with a cube that has place for more, tells whether what is handed
// in is as it was, also behind its end and when the answer was changed, and
// answers what was answered.
func ask(t *testing.T, x call, w world, c fact.Cube) (fact.Cube, api.Errno) {
	t.Helper()
	before, text, given := copied(w.m), course.Print(w.t), room(c)
	d, e := x.is(w, given)
	answer := slices.Clone(d)
	spoil(d)
	behind := given[len(given):cap(given)]
	if !slices.Equal(c, given) || slices.ContainsFunc(behind, func(f fact.Fact) bool { return f != spare }) {
		t.Errorf("%s changed %s to %s", x.name, shown(c), shown(given))
	}
	if !same(w.m, before) || course.Print(w.t) != text {
		t.Errorf("%s of %s changed master data or rates", x.name, shown(c))
	}
	return answer, e
}

func check(t *testing.T, x call, w world, c, want fact.Cube, wantE api.Errno) {
	t.Helper()
	d, e := ask(t, x, w, c)
	if !slices.Equal(d, want) || e != wantE {
		t.Errorf("%s of %s = %s, %d; want %s, %d", x.name, shown(c), shown(d), e, shown(want), wantE)
	}
	if e == api.OK && !fact.Right(d) {
		t.Errorf("%s of %s = %s, which is no cube", x.name, shown(c), shown(d))
	}
	if d, e := x.want(w, c); !slices.Equal(d, want) || e != wantE {
		t.Errorf("the test's own: %s of %s is %s, %d", x.name, shown(c), shown(d), e)
	}
}

// checkText asks for the cube of lines, of that of others.
func checkText(t *testing.T, x call, w world, lines, want string) {
	t.Helper()
	check(t, x, w, cubeOf(t, lines), cubeOf(t, want), api.OK)
}

// checkErrors asks for an error of each of these, and for nothing beside.
func checkErrors(t *testing.T, x call, w world, wantE api.Errno, lines ...string) {
	t.Helper()
	for _, s := range lines {
		check(t, x, w, cubeOf(t, s), nil, wantE)
	}
}

// checkAll holds all four calls against the chapter's words.
func checkAll(t *testing.T, w world, c fact.Cube) {
	t.Helper()
	for _, x := range calls {
		d, e := x.want(w, c)
		check(t, x, w, c, d, e)
	}
}

func TestEmpty(t *testing.T) {
	for _, w := range append(otherWorlds(t), usualWorld(t), worldOf(t, masterText, "")) {
		for _, x := range calls {
			check(t, x, w, nil, nil, api.OK)
			check(t, x, w, fact.Cube{}, nil, api.OK)
		}
	}
}

// usual is an ordinary cube of several entities: A's currency is the group's;
// B's rates leave differences; C's rates round, so that it balances no more.
const usual = `
	A bank F00 - 0 5
	A bank F20 - 0 2
	A bank F99 - 0 7
	A cap F00 - 0 5
	A cap F20 - 1 2
	A cap F99 - 0 7
	B bank F00 - 0 10
	B bank F15 - 1 2
	B bank F20 - 0 1
	B bank F98 - 0 3
	B bank F99 - 0 16
	B due F20 A 0 4
	B due F99 A 0 4
	B cap F00 - 0 10
	B cap F20 - 0 10
	B cap F99 - 0 20
	C bank F00 - 0 1
	C bank F20 - 0 1
	C bank F99 - 0 2
	C plant F00 - 0 1
	C plant F99 - 0 1
	C loan F00 - 0 2
	C loan F20 - 0 1
	C loan F99 - 0 3
`

const usualRated = `
	A bank F00 - 0 5
	A bank F20 - 0 2
	A bank F99 - 0 7
	A cap F00 - 0 5
	A cap F20 - 1 2
	A cap F99 - 0 7
	B bank F00 - 0 10
	B bank F15 - 1 5
	B bank F20 - 0 2
	B bank F98 - 0 7
	B bank F99 - 0 48
	B due F20 A 0 8
	B due F99 A 0 12
	B cap F00 - 0 10
	B cap F20 - 0 20
	B cap F99 - 0 60
	C bank F00 - 0 2
	C bank F99 - 0 1
	C plant F00 - 0 2
	C plant F99 - 0 1
	C loan F00 - 0 3
	C loan F99 - 0 2
`

const usualDifferences = `
	B bank F80 - 2 24
	B due F80 A 2 4
	B cap F80 - 2 30
	C bank F80 - 2 -1
	C plant F80 - 2 -1
	C loan F80 - 2 -1
`

const usualReserve = `
	C res F00 - 2 1
	C res F80 - 2 -1
`

func TestUsual(t *testing.T) {
	w := usualWorld(t)
	checkText(t, rates, w, usual, usualRated)
	checkText(t, even, w, usualRated, usualRated+usualDifferences)
	checkText(t, seal, w, usualRated, usualRated+usualDifferences+usualReserve)
	checkText(t, to, w, usual, usualRated+usualDifferences+usualReserve)
	// It agrees, as it was reported, so without rates nothing is to be done.
	checkText(t, even, w, usual, usual)
	checkText(t, seal, w, usual, usual)
	checkAll(t, w, cubeOf(t, usual))
	for _, w := range otherWorlds(t) {
		checkAll(t, w, cubeOf(t, usual))
	}
}

// TestExample is the chapter's: by its rates.
func TestExample(t *testing.T) {
	w := usualWorld(t)
	const told, rated = "B bank F00 - 0 10\nB bank F20 - 0 3\nB bank F99 - 0 13\n", "B bank F00 - 0 10\nB bank F20 - 0 6\nB bank F99 - 0 39\n"
	checkText(t, rates, w, told, rated)
	checkText(t, even, w, rated, rated+"B bank F80 - 2 23")
	checkText(t, to, w, told, rated+"B bank F80 - 2 23\nB res F00 - 2 10\nB res F80 - 2 29\nB res F99 - 2 39")
}

func TestRates(t *testing.T) {
	w := usualWorld(t)
	for _, x := range []struct{ lines, want string }{
		// A flow of each kind, and such as have a line of their own.
		{"B bank F00 - 0 6", "B bank F00 - 0 6"}, {"B bank F02 - 0 6", "B bank F02 - 0 12"}, {"B bank F15 - 0 6", "B bank F15 - 0 15"}, {"B bank F20 - 0 6", "B bank F20 - 0 12"},
		{"B bank F98 - 0 6", "B bank F98 - 0 14"}, {"B bank F99 - 0 6", "B bank F99 - 0 18"},
		{"C bank F00 - 0 6", "C bank F00 - 0 9"}, {"C bank F15 - 0 6", "C bank F15 - 0 2"}, {"C bank F98 - 0 6", "C bank F98 - 0 2"}, {"C bank F99 - 0 6", "C bank F99 - 0 3"},
		{"C bank F02 - 0 6", "C bank F02 - 0 6000000000"},
		// One line of a currency is enough, where no other is asked for.
		{"P bank F00 - 0 5", "P bank F00 - 0 10"}, {"Q bank F02 - 0 5\nQ bank F98 - 0 -5", "Q bank F02 - 0 10\nQ bank F98 - 0 -10"}, {"R bank F99 - 0 5", "R bank F99 - 0 10"}, {"S bank F20 - 0 5", "S bank F20 - 0 10"},
		// Entities of one currency, and of several.
		{"B bank F99 - 0 2\nD bank F99 - 0 2\nC bank F99 - 0 2\nA bank F99 - 0 2\nG bank F99 - 0 2", "B bank F99 - 0 6\nD bank F99 - 0 6\nC bank F99 - 0 1\nA bank F99 - 0 2\nG bank F99 - 0 2"},
		// Halves are rounded away from 0, and all else to what is nearer.
		{"C bank F00 - 0 1", "C bank F00 - 0 2"}, {"C bank F00 - 0 -1", "C bank F00 - 0 -2"}, {"C bank F00 - 0 3", "C bank F00 - 0 5"}, {"C bank F00 - 0 -3", "C bank F00 - 0 -5"},
		{"C bank F99 - 0 1", "C bank F99 - 0 1"}, {"C bank F99 - 0 -1", "C bank F99 - 0 -1"}, {"C bank F99 - 0 5", "C bank F99 - 0 3"}, {"C bank F99 - 0 -5", "C bank F99 - 0 -3"},
		{"C bank F20 - 0 4", "C bank F20 - 0 1"}, {"C bank F20 - 0 5", "C bank F20 - 0 2"}, {"C bank F20 - 0 -4", "C bank F20 - 0 -1"}, {"C bank F20 - 0 -5", "C bank F20 - 0 -2"},
		// What becomes 0 is left out, of either sign; what does not stays.
		{"C bank F20 - 0 1", ""}, {"C bank F20 - 0 -1", ""}, {"C bank F20 - 0 2", "C bank F20 - 0 1"}, {"C bank F20 - 0 -2", "C bank F20 - 0 -1"},
		{"C bank F20 - 0 1\nC bank F20 - 1 1\nC bank F20 - 2 1", ""}, {"C bank F15 - 0 -1\nC bank F20 - 0 2\nC cap F20 - 0 1", "C bank F20 - 0 1"},
		// Accounts, partners and marks are not asked for: those of each fact stay.
		{"B none F99 - 0 5", "B none F99 - 0 15"}, {"B - F99 - 0 5", "B - F99 - 0 15"}, {"B bank F99 B 0 5", "B bank F99 B 0 15"}, {"B due F99 none 0 5", "B due F99 none 0 15"},
		{"B bank F99 - 1 5\nB bank F99 - 2 6\nB bank F99 - 3 7\nB bank F99 - 4 8", "B bank F99 - 1 15\nB bank F99 - 2 18\nB bank F99 - 3 21\nB bank F99 - 4 24"},
		{"B bank F99 - -1 5\nB bank F99 - 9 5", "B bank F99 - -1 15\nB bank F99 - 9 15"},
		// Gaps, and what does not balance, are not asked for either.
		{"B bank F99 - 0 5\nB cap F00 - 0 7", "B bank F99 - 0 15\nB cap F00 - 0 7"},
		// Amounts that just fit.
		{"B bank F99 - 0 3074457345618258602", "B bank F99 - 0 9223372036854775806"}, {"B bank F99 - 0 -3074457345618258602", "B bank F99 - 0 -9223372036854775806"},
		{"B bank F20 - 0 4611686018427387903", "B bank F20 - 0 9223372036854775806"}, {"B bank F20 - 0 -4611686018427387904", "B bank F20 - 0 -9223372036854775808"},
		{"B bank F00 - 0 9223372036854775807", "B bank F00 - 0 9223372036854775807"}, {"B bank F00 - 0 -9223372036854775808", "B bank F00 - 0 -9223372036854775808"},
		{"C bank F99 - 0 9223372036854775807", "C bank F99 - 0 4611686018427387904"}, {"C bank F99 - 0 -9223372036854775807", "C bank F99 - 0 -4611686018427387904"},
	} {
		checkText(t, rates, w, x.lines, x.want)
		checkAll(t, w, cubeOf(t, x.lines))
	}
}

// TestRatesGroup has facts in the group's currency: nothing is changed, with any table, but flows are asked for.
func TestRatesGroup(t *testing.T) {
	none := worldOf(t, masterText, "")
	for _, w := range []world{usualWorld(t), none} {
		for _, lines := range []string{
			"A bank F00 - 0 5", "A bank F02 - 0 5\nG bank F15 - 0 -5", "A bank F98 - 0 5", "A bank F99 - 0 5", "A none F99 none 7 1\nG - F00 - -3 -1",
			"A bank F00 - 0 9223372036854775807\nA bank F20 - 0 -9223372036854775808\nG bank F98 - 0 -9223372036854775807\nG bank F99 - 0 9223372036854775806",
		} {
			checkText(t, rates, w, lines, lines)
		}
		checkErrors(t, rates, w, api.ErrFlow, "A bank F80 - 0 5", "G bank F00 - 0 1\nG bank F80 - 2 5")
		checkErrors(t, rates, w, api.ErrName, "A bank F50 - 0 5", "G bank - - 0 5", "A bank F00 - 0 1\nG bank fx - 2 5")
	}
	// Where the group has another currency, that of others is not changed.
	w := otherWorlds(t)[len(otherWorlds(t))-1]
	checkText(t, rates, w, "A bank F99 - 0 5\nB bank F99 - 0 5\nD bank F15 - 0 5", "A bank F99 - 0 15\nB bank F99 - 0 5\nD bank F15 - 0 5")
	// A table read by other master data may have lines of what is the group's currency here.
	w.t = usualWorld(t).t
	if d, e := Rates(w.m, w.t, cubeOf(t, "B bank F99 - 0 5")); e != api.OK || !slices.Equal(d, cubeOf(t, "B bank F99 - 0 5")) {
		t.Errorf("Rates in the group's currency: %s, %d", shown(d), e)
	}
}

func TestRatesErrors(t *testing.T) {
	w := usualWorld(t)
	// Entities that there are not, whatever else is wrong.
	checkErrors(t, rates, w, api.ErrName,
		"Z bank F99 - 0 5", "- bank F99 - 0 5", "a bank F99 - 0 5", "AA bank F99 - 0 5", "EUR bank F99 - 0 5", "bank bank F99 - 0 5",
		"Z bank F80 - 0 5", "Z bank F50 - 0 5", "Z none F99 - 0 9223372036854775807", "B bank F00 - 0 1\nBB bank F00 - 0 1\nC bank F00 - 0 1")
	// Flows that there are not.
	checkErrors(t, rates, w, api.ErrName,
		"B bank F50 - 0 5", "B bank - - 0 5", "B bank f99 - 0 5", "B bank F9 - 0 5", "B bank F999 - 0 5", "B bank close - 0 5", "B bank EUR - 0 5", "N bank F50 - 0 5", "B bank F50 - 0 9223372036854775807")
	// The flow of differences, also of a currency without rates.
	checkErrors(t, rates, w, api.ErrFlow, "B bank F80 - 0 5", "B bank F80 - 2 5", "N bank F80 - 0 5", "P bank F80 - 0 -5", "B none F80 A 1 9223372036854775807")
	// Currencies without a rate for a kind of flow.
	for _, x := range []struct{ entity, flows string }{
		{"N", "F00 F02 F15 F20 F98 F99"}, {"P", "F02 F15 F20 F98 F99"}, {"Q", "F00 F99"}, {"R", "F00 F02 F15 F20 F98"}, {"S", "F00 F02 F15 F98 F99"},
	} {
		for _, code := range strings.Fields(x.flows) {
			checkErrors(t, rates, w, api.ErrRate, x.entity+" bank "+code+" - 0 5", x.entity+" bank "+code+" - 0 9223372036854775807", "B bank F99 - 0 5\n"+x.entity+" due "+code+" B 1 -5\n")
		}
	}
	none := worldOf(t, masterText, "")
	checkErrors(t, rates, none, api.ErrRate, usual, "B bank F00 - 0 5", "S bank F20 - 0 5")
	// Amounts that a rate makes too large.
	checkErrors(t, rates, w, api.ErrOver,
		"B bank F99 - 0 3074457345618258603", "B bank F99 - 0 -3074457345618258603", "B bank F20 - 0 4611686018427387904", "B bank F20 - 0 -4611686018427387905", "B bank F99 - 0 9223372036854775807", "C bank F02 - 0 -9223372036854775808",
		"C bank F00 - 0 9223372036854775807", "B bank F99 - 0 5\nB bank F99 - 3 9223372036854775807")
}

// TestRatesFirst asks which error is told: that of the first fact, in the cube's order.
func TestRatesFirst(t *testing.T) {
	w := usualWorld(t)
	wrong := []struct {
		line string // but for the first byte of the entity
		e    api.Errno
	}{
		{"bank F50 - 0 1", api.ErrName}, {"bank F80 - 0 1", api.ErrFlow}, {"bank F99 - 0 9223372036854775807", api.ErrOver}, {"none F80 - 0 1", api.ErrFlow}, {"due F50 A 1 1", api.ErrName}, {"due F99 A 2 9223372036854775807", api.ErrOver},
	}
	for _, first := range wrong {
		for _, second := range wrong {
			checkErrors(t, rates, w, first.e, "B "+first.line+"\nD "+second.line, "A bank F00 - 0 1\nB "+first.line+"\nZ "+second.line, "B "+first.line+"\nN bank F00 - 0 1")
			checkErrors(t, rates, w, api.ErrName, "AA "+first.line+"\nB "+second.line)
			checkErrors(t, rates, w, api.ErrRate, "N bank F00 - 0 1\nP bank F00 - 0 1\nZ "+second.line)
		}
	}
	// By accounts, then by flows, partners and marks.
	checkErrors(t, rates, w, api.ErrOver, "B bank F99 - 0 9223372036854775807\nB cap F50 - 0 1", "B bank F00 - 0 1\nB bank F15 - 0 9223372036854775807\nB bank F50 - 0 1")
	checkErrors(t, rates, w, api.ErrName, "B bank F50 - 0 1\nB bank F99 - 0 9223372036854775807", "B bank F50 B 0 1\nB bank F80 - 0 1")
	checkErrors(t, rates, w, api.ErrFlow, "B bank F80 A 1 1\nB bank F81 - 0 1", "B bank F80 - 0 1\nB bank F99 - 0 9223372036854775807")
	checkErrors(t, rates, w, api.ErrRate, "Q bank F00 - 0 1\nQ bank F80 - 0 1", "N bank F20 - 0 1\nN bank F50 - 0 1")
}

// many answers n facts of an entity's account, which have each another partner, by rising keys.
func many(n int, entity, code string, amount int64) []fact.Fact {
	var l []fact.Fact
	for i := range n {
		l = append(l, fact.Fact{Key: fact.Key{Entity: entity, Account: "due", Flow: code, Partner: "E" + strconv.Itoa(10000+i)}, Amount: amount})
	}
	return l
}

// TestRatesBig has as many facts as there may be, and more.
func TestRatesBig(t *testing.T) {
	w := usualWorld(t)
	check(t, rates, w, many(2000, "B", "F99", 5), many(2000, "B", "F99", 15), api.OK)
	check(t, rates, w, many(2001, "B", "F99", 5), nil, api.ErrBig)
	// Those that fall away count no more.
	small := append(many(2000, "B", "F99", 5), many(1, "C", "F20", 1)...)
	check(t, rates, w, small, many(2000, "B", "F99", 15), api.OK)
	// A fact's error counts ahead of there being too many.
	check(t, rates, w, append(many(2001, "B", "F99", 5), factOf("D bank F80 - 0 5")), nil, api.ErrFlow)
	check(t, to, w, many(2001, "B", "F99", 5), nil, api.ErrBig)
}

func TestEven(t *testing.T) {
	w := usualWorld(t)
	for _, x := range []struct{ lines, more string }{
		// A flow of each kind alone, with either sign.
		{"B bank F00 - 0 5", "B bank F80 - 2 -5"}, {"B bank F00 - 0 -5", "B bank F80 - 2 5"}, {"B bank F02 - 0 5", "B bank F80 - 2 -5"}, {"B bank F20 - 1 -5", "B bank F80 - 2 5"},
		{"B bank F98 - 0 5", "B bank F80 - 2 -5"}, {"B bank F99 - 0 5", "B bank F80 - 2 5"}, {"B bank F99 - 0 -5", "B bank F80 - 2 -5"},
		{"B bank F80 - 0 5", "B bank F80 - 2 -5"}, {"B bank F80 - 1 -5", "B bank F80 - 2 5"},
		// All flows, with a gap and without one.
		{"B bank F00 - 0 1\nB bank F02 - 0 2\nB bank F15 - 0 4\nB bank F20 - 0 8\nB bank F80 - 0 16\nB bank F98 - 0 32\nB bank F99 - 0 64", "B bank F80 - 2 1"},
		{"B bank F00 - 0 1\nB bank F02 - 0 2\nB bank F15 - 0 4\nB bank F20 - 0 8\nB bank F80 - 0 16\nB bank F98 - 0 32\nB bank F99 - 0 63", ""},
		{"B bank F00 - 0 5\nB bank F20 - 0 -5", ""}, {"B bank F00 - 0 5\nB bank F99 - 0 5", ""},
		// A difference that is there already, of the Mark Scaled: more is added to it.
		{"B bank F00 - 0 5\nB bank F80 - 2 -5", ""}, {"B bank F00 - 0 5\nB bank F80 - 2 -3", "B bank F80 - 2 -2"}, {"B bank F00 - 0 5\nB bank F80 - 2 3", "B bank F80 - 2 -8"}, {"B bank F80 - 2 3\nB bank F99 - 0 9", "B bank F80 - 2 6"},
		// It falls away, if there is no gap without it.
		{"B bank F80 - 2 3", "B bank F80 - 2 -3"}, {"B bank F00 - 0 5\nB bank F80 - 2 3\nB bank F99 - 0 5", "B bank F80 - 2 -3"},
		// Of another Mark it stays as it is.
		{"B bank F00 - 0 5\nB bank F80 - 0 -5", ""}, {"B bank F00 - 0 5\nB bank F80 - 0 -3", "B bank F80 - 2 -2"}, {"B bank F80 - 1 3\nB bank F80 - 3 4\nB bank F99 - 0 9", "B bank F80 - 2 2"},
		{"B bank F80 - 0 1\nB bank F80 - 1 2\nB bank F80 - 2 4\nB bank F80 - 3 8\nB bank F80 - 4 16\nB bank F99 - 0 32", "B bank F80 - 2 1"}, {"B bank F80 - -1 3\nB bank F80 - 7 4", "B bank F80 - 2 -7"},
		// Each mark alone, and all of them.
		{"B bank F99 - 1 5", "B bank F80 - 2 5"}, {"B bank F99 - 2 5", "B bank F80 - 2 5"}, {"B bank F99 - 3 5", "B bank F80 - 2 5"}, {"B bank F99 - 4 5", "B bank F80 - 2 5"}, {"B bank F99 - -1 5", "B bank F80 - 2 5"}, {"B bank F99 - 9 5", "B bank F80 - 2 5"},
		{"B bank F00 - 0 1\nB bank F00 - 1 2\nB bank F00 - 2 4\nB bank F00 - 3 8\nB bank F99 - 4 16", "B bank F80 - 2 1"}, {"B bank F00 - 1 5\nB bank F99 - 4 5", ""},
		// Several places: what stands elsewhere is another's.
		{"B bank F00 - 0 5\nB cap F99 - 0 5", "B bank F80 - 2 -5\nB cap F80 - 2 5"}, {"B bank F00 - 0 5\nD bank F99 - 0 5", "B bank F80 - 2 -5\nD bank F80 - 2 5"},
		{"B due F00 A 0 5\nB due F99 C 0 5", "B due F80 A 2 -5\nB due F80 C 2 5"}, {"B due F00 A 0 5\nB due F99 - 0 5", "B due F80 A 2 -5\nB due F80 - 2 5"}, {"B bank F00 - 0 5\nB bank F99 B 0 5", "B bank F80 - 2 -5\nB bank F80 B 2 5"},
		{"B due F00 A 0 5\nB due F00 C 0 6\nB due F20 C 1 2\nB due F99 A 0 7\nB due F99 C 0 8\nB owe F99 A 0 9\nC due F00 A 0 1", "B due F80 A 2 2\nB owe F80 A 2 9\nC due F80 A 2 -1"},
		{"A bank F00 - 0 5\nA bank F99 - 0 5\nB bank F00 - 0 5\nB bank F99 - 0 6\nC bank F00 - 0 5\nC bank F99 - 0 5", "B bank F80 - 2 1"},
		// Entities and partners are not asked for.
		{"Z bank F99 - 0 5", "Z bank F80 - 2 5"}, {"- bank F99 - 0 5", "- bank F80 - 2 5"}, {"B bank F99 none 0 5", "B bank F80 none 2 5"}, {"- bank F00 - 0 5\nA bank F99 - 0 7", "- bank F80 - 2 -5\nA bank F80 - 2 7"},
		// Facts whose account, or flow, the master data have not count nothing, and stay.
		{"B none F99 - 0 5", ""}, {"B - F99 - 0 5", ""}, {"B none F80 - 2 5", ""}, {"B bank F50 - 0 5", ""}, {"B bank - - 0 5", ""}, {"B bank f99 - 0 5", ""}, {"B bank close - 2 5", ""}, {"Z none F50 Y 3 5", ""},
		{"B bank F50 - 0 5\nB bank F99 - 0 7\nB bank - - 0 8\nB bank Z - 0 9\nB none F99 - 0 4\nB none F00 - 0 3", "B bank F80 - 2 7"},
		{"B none F99 - 0 9223372036854775807\nB none F00 - 0 -9223372036854775808", ""}, {"B bank F - 0 9223372036854775807\nB bank F50 - 0 9223372036854775807\nB bank F00 - 0 1", "B bank F80 - 2 -1"},
		// What does not balance is not asked for.
		{"B bank F00 - 0 5\nB bank F99 - 0 5\nB cap F00 - 0 7\nB cap F99 - 0 7", ""}, {"B res F00 - 2 5\nB res F99 - 2 5", ""}, {"B res F99 - 2 5", "B res F80 - 2 5"},
		// Amounts at both ends.
		{"B bank F99 - 0 9223372036854775807", "B bank F80 - 2 9223372036854775807"}, {"B bank F99 - 0 -9223372036854775808", "B bank F80 - 2 -9223372036854775808"}, {"B bank F00 - 0 9223372036854775807", "B bank F80 - 2 -9223372036854775807"},
		{"B bank F00 - 0 -9223372036854775807", "B bank F80 - 2 9223372036854775807"}, {"B bank F00 - 0 9223372036854775807\nB bank F15 - 0 1", "B bank F80 - 2 -9223372036854775808"}, {"B bank F00 - 0 1\nB bank F99 - 0 -9223372036854775807", "B bank F80 - 2 -9223372036854775808"},
		{"B bank F80 - 2 -9223372036854775807\nB bank F98 - 0 9223372036854775807", ""},
	} {
		c, more := factsOf(x.lines), factsOf(x.more)
		check(t, even, w, cubeOfFacts(t, c), cubeOfFacts(t, slices.Concat(c, more)), api.OK)
		checkAll(t, w, cubeOfFacts(t, c))
	}
}

// over are lines of a place whose gap does not fit, in the end or on the way.
var over = []string{
	"bank F00 - 0 -9223372036854775808", "bank F20 - 2 -9223372036854775808", "bank F80 - 2 -9223372036854775808", "due F98 A 0 -9223372036854775808",
	"bank F00 - 0 -9223372036854775807\n%[1]s bank F99 - 0 1", "bank F00 - 0 9223372036854775807\n%[1]s bank F99 - 0 -2", "bank F00 - 0 9223372036854775807\n%[1]s bank F02 - 0 2",
	"bank F00 - 0 -9223372036854775807\n%[1]s bank F20 - 0 -1\n%[1]s bank F98 - 0 1", "bank F00 - 0 9223372036854775807\n%[1]s bank F15 - 0 2\n%[1]s bank F80 - 2 -9",
	"bank F99 - 0 9223372036854775807\n%[1]s bank F99 - 1 1", "bank F99 - 0 9223372036854775807\n%[1]s bank F99 - 1 1\n%[1]s bank F99 - 2 -5",
}

// of answers lines of an entity, which they have but in their first place.
func of(entity, lines string) string {
	return strings.ReplaceAll("%[1]s "+lines+"\n", "%[1]s", entity)
}

func TestEvenErrors(t *testing.T) {
	w := usualWorld(t)
	for _, lines := range over {
		checkErrors(t, even, w, api.ErrOver, of("B", lines), of("D", lines)+usual, "A bank F99 - 0 5\n"+of("D", lines), of("Z", lines))
	}
	// Both places' gaps do not fit: that is one error.
	checkErrors(t, even, w, api.ErrOver, of("B", over[0])+of("D", over[1]))
	// What is there already does not fit with what is added, though the gap fits.
	for _, x := range []struct {
		lines string
		gap   int64
	}{
		{"bank F00 - 0 -9223372036854775807\n%[1]s bank F80 - 2 10\n%[1]s bank F99 - 0 5", greatest - 5},
		{"bank F00 - 0 9223372036854775807\n%[1]s bank F80 - 2 -10\n%[1]s bank F99 - 0 -9", least + 2},
	} {
		checkErrors(t, even, w, api.ErrOver, of("B", x.lines), of("D", x.lines)+usual)
		if n, e := control.Gap(w.m, cubeOf(t, of("B", x.lines)), "B", "bank", ""); n != x.gap || e != api.OK {
			t.Errorf("the test's own: the gap is %d, %d", n, e)
		}
		// Of another Mark it fits.
		c := of("B", strings.Replace(x.lines, "F80 - 2", "F80 - 1", 1))
		checkText(t, even, w, c, c+"B bank F80 - 2 "+strconv.FormatInt(x.gap, 10))
	}
}

// TestEvenOrder has places whose sums fit in the cube's order, and in hardly any other.
func TestEvenOrder(t *testing.T) {
	w := usualWorld(t)
	var l []fact.Fact
	for i := range 12 * 4 * 6 {
		flows := []string{"F00", "F02", "F15", "F20"}
		k := fact.Key{Entity: "B", Account: "due", Flow: flows[i/6%4], Partner: "P" + strconv.Itoa(10+i/24), Mark: i % 6}
		amount := int64(greatest)
		if i%2 == 1 {
			amount = -greatest
		}
		l = append(l, fact.Fact{Key: k, Amount: amount})
	}
	c := cubeOfFacts(t, l)
	check(t, even, w, c, c, api.OK)
	check(t, seal, w, c, c, api.OK)
	// One more in one place is told there.
	check(t, even, w, cubeOfFacts(t, append(l, factOf("B due F98 P15 0 5"))), cubeOfFacts(t, append(l, factsOf("B due F98 P15 0 5\nB due F80 P15 2 -5")...)), api.OK)
	check(t, even, w, cubeOfFacts(t, append(l, factOf("B due F02 P15 -1 5"))), nil, api.ErrOver)
}

// level answers n places without a gap: an entity's account with n partners, opening and closing.
func level(n int, entity string) []fact.Fact {
	return append(many(n, entity, "F00", 5), many(n, entity, "F99", 5)...)
}

// TestEvenBig has as many facts as there may be, and more by what is added.
func TestEvenBig(t *testing.T) {
	w := usualWorld(t)
	full := cubeOfFacts(t, level(1000, "B"))
	check(t, even, w, full, full, api.OK)
	gaps := cubeOfFacts(t, many(1000, "B", "F99", 5))
	var differences []fact.Fact
	for _, f := range many(1000, "B", "F80", 5) {
		f.Key.Mark = fact.Scaled
		differences = append(differences, f)
	}
	check(t, even, w, gaps, cubeOfFacts(t, slices.Concat(gaps, differences)), api.OK)
	check(t, even, w, cubeOfFacts(t, many(1001, "B", "F99", 5)), nil, api.ErrBig)
	check(t, even, w, cubeOfFacts(t, many(2000, "B", "F99", 5)), nil, api.ErrBig)
	// One more, and one that falls away for it.
	one := append(level(999, "B"), factOf("D bank F99 - 0 5"))
	check(t, even, w, cubeOfFacts(t, one), cubeOfFacts(t, append(one, factOf("D bank F80 - 2 5"))), api.OK)
	check(t, even, w, cubeOfFacts(t, append(one, factOf("D cap F99 - 0 5"))), nil, api.ErrBig)
	gone := append(level(999, "B"), factOf("D bank F99 - 0 5"), factOf("D cap F80 - 2 5"))
	check(t, even, w, cubeOfFacts(t, gone), cubeOfFacts(t, append(one, factOf("D bank F80 - 2 5"))), api.OK)
	// A gap that does not fit counts ahead of there being too many, wherever it stands.
	check(t, even, w, cubeOfFacts(t, append(many(1500, "B", "F99", 5), factsOf(of("A", over[0]))...)), nil, api.ErrOver)
	check(t, even, w, cubeOfFacts(t, append(many(1500, "B", "F99", 5), factsOf(of("Z", over[0]))...)), nil, api.ErrOver)
}

func TestSeal(t *testing.T) {
	w := usualWorld(t)
	for _, x := range []struct{ lines, more string }{
		// Accounts of each class, that open and close alike.
		{"B bank F00 - 0 5\nB bank F99 - 0 5", "B res F00 - 2 5\nB res F99 - 2 5"}, {"B bank F00 - 0 -5\nB bank F99 - 0 -5", "B res F00 - 2 -5\nB res F99 - 2 -5"},
		{"B loan F00 - 0 5\nB loan F99 - 0 5", "B res F00 - 2 -5\nB res F99 - 2 -5"}, {"B cap F00 - 1 5\nB cap F99 - 4 5", "B res F00 - 2 -5\nB res F99 - 2 -5"}, {"B due F00 A 0 5\nB due F99 A 0 5", "B res F00 - 2 5\nB res F99 - 2 5"},
		// Opening alone, closing alone, and both with unlike rests: the reserve has a difference then.
		{"B bank F00 - 0 5\nB bank F20 - 0 -5", "B res F00 - 2 5\nB res F80 - 2 -5"}, {"B bank F20 - 0 5\nB bank F99 - 0 5", "B res F80 - 2 5\nB res F99 - 2 5"}, {"B bank F00 - 0 5\nB bank F20 - 0 2\nB bank F99 - 0 7", "B res F00 - 2 5\nB res F80 - 2 2\nB res F99 - 2 7"},
		// With gaps too.
		{"B bank F00 - 0 5", "B bank F80 - 2 -5\nB res F00 - 2 5\nB res F80 - 2 -5"}, {"B bank F99 - 0 5", "B bank F80 - 2 5\nB res F80 - 2 5\nB res F99 - 2 5"}, {"B cap F99 - 0 5", "B cap F80 - 2 5\nB res F80 - 2 -5\nB res F99 - 2 -5"},
		{"A bank F00 - 0 5\nA bank F20 - 0 1\nA cap F99 - 0 2", "A bank F80 - 2 -6\nA cap F80 - 2 2\nA res F00 - 2 5\nA res F80 - 2 -7\nA res F99 - 2 -2"},
		// What balances by itself gets no reserve, with gaps and without.
		{"B bank F00 - 0 5\nB bank F99 - 0 5\nB cap F00 - 0 5\nB cap F99 - 0 5", ""}, {"B bank F99 - 0 5\nB loan F99 - 0 3\nB cap F99 - 0 2", "B bank F80 - 2 5\nB loan F80 - 2 3\nB cap F80 - 2 2"}, {"B bank F00 - 0 5\nB dif F00 - 0 -5", "B bank F80 - 2 -5\nB dif F80 - 2 5"},
		// Movements do not balance anything.
		{"B bank F20 - 0 5", "B bank F80 - 2 -5"}, {"B bank F98 - 0 5\nB cap F15 - 0 9", "B bank F80 - 2 -5\nB cap F80 - 2 -9"}, {"B bank F80 - 2 5", "B bank F80 - 2 -5"},
		// Entity by entity: what balances together does not balance by itself.
		{"B bank F00 - 0 5\nB bank F99 - 0 5\nD cap F00 - 0 5\nD cap F99 - 0 5", "B res F00 - 2 5\nB res F99 - 2 5\nD res F00 - 2 -5\nD res F99 - 2 -5"},
		{"A bank F00 - 0 1\nA bank F99 - 0 1\nC bank F00 - 0 2\nC bank F99 - 0 2\nD cap F99 - 0 4", "A res F00 - 2 1\nA res F99 - 2 1\nC res F00 - 2 2\nC res F99 - 2 2\nD cap F80 - 2 4\nD res F80 - 2 -4\nD res F99 - 2 -4"},
		{"A bank F00 - 0 5\nA bank F99 - 0 5\nA cap F00 - 0 5\nA cap F99 - 0 5\nB bank F99 - 0 5\nB bank F20 - 0 5", "B res F80 - 2 5\nB res F99 - 2 5"},
		// A reserve that is there already: of the Mark Scaled more is added to it, of others it stays.
		{"B bank F00 - 0 5\nB bank F99 - 0 5\nB res F00 - 2 3\nB res F99 - 2 3", "B res F00 - 2 2\nB res F99 - 2 2"}, {"B bank F00 - 0 5\nB bank F99 - 0 5\nB res F00 - 0 3\nB res F99 - 1 3", "B res F00 - 2 2\nB res F99 - 2 2"},
		{"B res F00 - 2 5\nB res F99 - 2 5", "B res F00 - 2 -5\nB res F99 - 2 -5"}, {"B res F00 - 0 5\nB res F99 - 0 5", "B res F00 - 2 -5\nB res F99 - 2 -5"}, {"B bank F99 - 0 5\nB bank F20 - 0 5\nB res F20 - 0 5\nB res F99 - 2 5", ""},
		{"B res F20 - 2 5", "B res F80 - 2 -5"}, {"B res F80 - 2 5", "B res F80 - 2 -5"}, {"B res F00 - 2 5\nB res F80 - 2 1", "B res F00 - 2 -5\nB res F80 - 2 -1"},
		// With a partner it is equity as other, and the reserve has none.
		{"B res F99 A 2 5\nB res F20 A 2 5", "B res F80 - 2 -5\nB res F99 - 2 -5"},
		// Another entity's is another.
		{"B bank F20 - 0 5\nB bank F99 - 0 5\nD res F20 - 0 5\nD res F99 - 2 5", "B res F80 - 2 5\nB res F99 - 2 5\nD res F80 - 2 -5\nD res F99 - 2 -5"},
		// Facts whose account, or flow, the master data have not count nothing, and stay.
		{"B none F00 - 0 5\nB none F99 - 0 7", ""}, {"B bank F50 - 0 5\nB - F99 - 0 7\nD bank - - 3 4", ""}, {"B none F00 - 0 9\nB bank F99 - 0 5\nB bank F20 - 0 5\nB bank F5 - 0 3", "B res F80 - 2 5\nB res F99 - 2 5"},
		{"B none F00 - 0 9223372036854775807\nB nona F00 - 0 9223372036854775807\nB bank F50 - 0 9223372036854775807\nB bank F51 - 0 9223372036854775807", ""},
		// Partners and marks that there are not count as others do.
		{"B bank F00 none 7 5\nB bank F99 none -3 5", "B res F00 - 2 5\nB res F99 - 2 5"},
		// Amounts at both ends.
		{"B bank F20 - 0 9223372036854775807\nB bank F99 - 0 9223372036854775807", "B res F80 - 2 9223372036854775807\nB res F99 - 2 9223372036854775807"}, {"B cap F20 - 0 9223372036854775807\nB cap F99 - 0 9223372036854775807", "B res F80 - 2 -9223372036854775807\nB res F99 - 2 -9223372036854775807"},
		{"B bank F00 - 0 -9223372036854775807", "B bank F80 - 2 9223372036854775807\nB res F00 - 2 -9223372036854775807\nB res F80 - 2 9223372036854775807"}, {"B loan F99 - 0 9223372036854775807", "B loan F80 - 2 9223372036854775807\nB res F80 - 2 -9223372036854775807\nB res F99 - 2 -9223372036854775807"},
	} {
		c, more := factsOf(x.lines), factsOf(x.more)
		check(t, seal, w, cubeOfFacts(t, c), cubeOfFacts(t, slices.Concat(c, more)), api.OK)
		checkAll(t, w, cubeOfFacts(t, c))
	}
}

// unweighed are lines of an entity whose balance does not fit, in the end or
// on the way, by the flow of opening; each of its gaps fits.
var unweighed = []string{
	"bank F00 - 0 9223372036854775807\n%[1]s plant F00 - 0 1", "bank F00 - 0 -9223372036854775807\n%[1]s cap F00 - 0 2", "bank F00 - 0 9223372036854775807\n%[1]s loan F00 - 0 -1",
	"bank F00 - 0 9223372036854775807\n%[1]s cap F00 - 0 -1\n%[1]s loan F00 - 0 9", "bank F00 - 0 9223372036854775807\n%[1]s res F00 - 2 -1\n%[1]s sub F00 - 0 9",
}

func TestSealErrors(t *testing.T) {
	w := usualWorld(t)
	for _, lines := range unweighed {
		closing := strings.ReplaceAll(lines, "F00", "F99")
		for _, lines := range []string{lines, closing} {
			checkErrors(t, seal, w, api.ErrOver, of("B", lines), of("D", lines)+usual, "A bank F99 - 0 5\n"+of("D", lines))
			// Even asks no balance.
			if _, e := ask(t, even, w, cubeOf(t, of("B", lines))); e != api.OK {
				t.Errorf("Even of %q: %d", of("B", lines), e)
			}
		}
	}
	// Names: an entity that there is not, alone, and beside others.
	checkErrors(t, seal, w, api.ErrName,
		"Z bank F00 - 0 5", "- bank F00 - 0 5", "a bank F00 - 0 5", "AA bank F00 - 0 5", "EUR bank F00 - 0 5", "Z none F50 - 0 5", "A1 bank F00 - 0 1\nA bank F00 - 0 1\nB bank F00 - 0 1",
		usual+"Z bank F00 - 0 5", usual+"0 none F50 - 0 5", usual+"BB res F80 - 2 5")
	// As a partner it may be.
	checkText(t, seal, w, "B due F00 Z 0 5\nB due F99 Z 0 5", "B due F00 Z 0 5\nB due F99 Z 0 5\nB res F00 - 2 5\nB res F99 - 2 5")
	// A reserve that does not fit with what is there already, though it fits itself.
	const much = "B bank F00 - 0 9223372036854775807\nB res F00 - 2 10\nB sub F00 - 0 -5\n"
	checkErrors(t, seal, w, api.ErrOver, much, strings.ReplaceAll(much, "B ", "D ")+usual, strings.ReplaceAll(much, "F00", "F99"), "B bank F00 - 0 -9223372036854775807\nB res F00 - 2 -10\nB sub F00 - 0 9\n")
	for _, kind := range []int{api.Open, api.Close} {
		code := map[int]string{api.Open: "F00", api.Close: "F99"}[kind]
		if n, e := control.Weigh(w.m, cubeOf(t, strings.ReplaceAll(much, "F00", code)), "B", kind); n != greatest-5 || e != api.OK {
			t.Errorf("the test's own: the balance is %d, %d", n, e)
		}
	}
	// Gaps that do not fit, the reserve's own too.
	for _, lines := range over {
		checkErrors(t, seal, w, api.ErrOver, of("B", lines), of("D", lines)+usual)
	}
	const far = "B bank F00 - 0 -9223372036854775807\nB plant F99 - 0 9223372036854775807\n"
	checkErrors(t, seal, w, api.ErrOver, far, far+"A bank F00 - 0 1")
	checkText(t, even, w, far, far+"B bank F80 - 2 9223372036854775807\nB plant F80 - 2 9223372036854775807")
}

// TestSealFirst asks which error is told where more than one would hold.
func TestSealFirst(t *testing.T) {
	w := usualWorld(t)
	facts := func(n int, lines ...string) fact.Cube {
		return cubeOfFacts(t, append(level(n, "B"), factsOf(lines...)...))
	}
	// An entity that is none counts ahead of all else, wherever it stands.
	for _, entity := range []string{"A0", "Z"} {
		stranger := entity + " bank F00 - 0 1\n"
		for _, lines := range slices.Concat(over, unweighed) {
			checkErrors(t, seal, w, api.ErrName, stranger+of("B", lines), of("B", lines)+of(entity, lines), stranger+of("A", lines)+of("D", lines))
		}
		check(t, seal, w, facts(999, stranger), nil, api.ErrName)
	}
	// A balance that does not fit counts ahead of there being too many facts with the reserves, wherever it stands.
	for _, lines := range unweighed {
		closing := strings.ReplaceAll(lines, "F00", "F99")
		for _, entity := range []string{"A", "D"} {
			check(t, seal, w, facts(998, of(entity, lines)), nil, api.ErrOver)
			check(t, seal, w, facts(998, of(entity, closing)), nil, api.ErrOver)
		}
	}
	// Their being too many counts ahead of a gap that does not fit.
	check(t, seal, w, facts(999, "D bank F99 - 0 9223372036854775807\nD bank F20 - 0 -5"), nil, api.ErrBig)
	check(t, seal, w, facts(997, "D bank F99 - 0 9223372036854775807\nD bank F20 - 0 -5"), nil, api.ErrOver)
	// And a reserve that does not fit ahead of their being too many.
	check(t, seal, w, facts(998, "D bank F00 - 0 9223372036854775807\nD res F00 - 2 10\nD sub F00 - 0 -5"), nil, api.ErrOver)
}

// TestSealBig has as many facts as there may be, and more by what is added.
func TestSealBig(t *testing.T) {
	w := usualWorld(t)
	// Their entity's reserve opens and closes, and has no gap.
	full := cubeOfFacts(t, append(level(999, "B"), factsOf("B res F00 - 0 4995\nB res F99 - 1 4995")...))
	check(t, seal, w, full, full, api.OK)
	lacks := cubeOfFacts(t, level(999, "B"))
	check(t, seal, w, lacks, cubeOfFacts(t, append(level(999, "B"), factsOf("B res F00 - 2 4995\nB res F99 - 2 4995")...)), api.OK)
	check(t, seal, w, cubeOfFacts(t, level(1000, "B")), nil, api.ErrBig)
	check(t, seal, w, cubeOfFacts(t, append(level(999, "B"), factOf("D none F00 - 0 1"))), nil, api.ErrBig)
	// The reserves have room, but not with the differences behind them.
	check(t, seal, w, cubeOfFacts(t, append(level(998, "B"), factOf("D bank F99 - 0 5"))), nil, api.ErrBig)
	room := append(level(997, "B"), factOf("D bank F99 - 0 5"))
	check(t, seal, w, cubeOfFacts(t, room), cubeOfFacts(t, append(room, factsOf("B res F00 - 2 4985\nB res F99 - 2 4985\nD bank F80 - 2 5\nD res F80 - 2 5\nD res F99 - 2 5")...)), api.OK)
	// A difference that will fall away makes no room for a reserve.
	gone := append(level(999, "B"), factOf("B cap F80 - 2 1"))
	check(t, even, w, cubeOfFacts(t, gone), lacks, api.OK)
	check(t, seal, w, cubeOfFacts(t, gone), nil, api.ErrBig)
	// A reserve that falls away does.
	kept := append(level(998, "B"), factsOf("B cap F00 - 0 4990\nB cap F99 - 0 4990\nD bank F20 - 0 5")...)
	check(t, seal, w, cubeOfFacts(t, append(kept, factOf("D res F99 - 2 5"))), cubeOfFacts(t, append(kept, factOf("D bank F80 - 2 -5"))), api.OK)
}

func TestTo(t *testing.T) {
	w := usualWorld(t)
	for _, x := range []struct{ lines, want string }{
		// What balances and has no gap, at unlike rates.
		{"B bank F00 - 0 10\nB bank F99 - 0 10\nB cap F00 - 0 10\nB cap F99 - 0 10", "B bank F00 - 0 10\nB bank F80 - 2 20\nB bank F99 - 0 30\nB cap F00 - 0 10\nB cap F80 - 2 20\nB cap F99 - 0 30"},
		// What does not.
		{"B bank F99 - 0 5", "B bank F80 - 2 15\nB bank F99 - 0 15\nB res F80 - 2 15\nB res F99 - 2 15"}, {"A bank F99 - 0 5", "A bank F80 - 2 5\nA bank F99 - 0 5\nA res F80 - 2 5\nA res F99 - 2 5"},
		// What is rounded.
		{"C bank F00 - 0 1\nC dif F00 - 0 1\nC cap F00 - 0 2\nC bank F20 - 0 -1\nC dif F20 - 0 -1\nC cap F20 - 0 -2", "C bank F00 - 0 2\nC dif F00 - 0 2\nC cap F00 - 0 3\nC cap F20 - 0 -1\nC res F00 - 2 1\nC bank F80 - 2 -2\nC dif F80 - 2 -2\nC cap F80 - 2 -2\nC res F80 - 2 -1"},
		// What becomes nothing.
		{"C bank F20 - 0 1", ""}, {"C bank F15 - 0 -1\nC cap F20 - 0 1", ""}, {"C bank F15 - 0 -1\nA bank F20 - 0 1", "A bank F20 - 0 1\nA bank F80 - 2 -1"},
		// Marks of what was told stay.
		{"B bank F00 - 0 1\nB bank F00 - 1 2\nB bank F99 - 1 1\nB cap F00 - 1 3\nB cap F99 - 0 1", "B bank F00 - 0 1\nB bank F00 - 1 2\nB bank F99 - 1 3\nB cap F00 - 1 3\nB cap F99 - 0 3"},
		// A reserve that was reported is translated as other equity.
		{"B bank F00 - 0 5\nB res F00 - 0 5\nB bank F99 - 0 5\nB res F99 - 0 5", "B bank F00 - 0 5\nB res F00 - 0 5\nB bank F80 - 2 10\nB res F80 - 2 10\nB bank F99 - 0 15\nB res F99 - 0 15"},
		// An account that the master data have not is translated, and counts nothing.
		{"B none F99 - 0 5", "B none F99 - 0 15"},
	} {
		checkText(t, to, w, x.lines, x.want)
		checkAll(t, w, cubeOf(t, x.lines))
	}
}

// TestToErrors asks for Rates' errors ahead of Seal's, and for Seal's of what was translated.
func TestToErrors(t *testing.T) {
	w := usualWorld(t)
	checkErrors(t, to, w, api.ErrName, "Z bank F00 - 0 5", "B bank F50 - 0 5", usual+"Z bank F00 - 0 5")
	checkErrors(t, to, w, api.ErrFlow, "B bank F80 - 2 5", "A bank F80 - 2 5", usual+"D bank F80 - 2 5", usualRated+usualDifferences)
	checkErrors(t, to, w, api.ErrRate, "N bank F00 - 0 5", usual+"Q bank F99 - 0 5")
	checkErrors(t, to, worldOf(t, masterText, ""), api.ErrRate, usual)
	checkErrors(t, to, w, api.ErrOver, "B bank F99 - 0 9223372036854775807", usual+"D bank F99 - 0 -9223372036854775808")
	// Of an entity that comes first, or of one that is none, which Seal alone would tell first.
	checkErrors(t, to, w, api.ErrFlow, "B bank F80 - 2 5\nZ bank F00 - 0 5")
	checkErrors(t, to, w, api.ErrRate, "N bank F00 - 0 5\nZ bank F00 - 0 5", of("A", unweighed[0])+"N bank F00 - 0 5", of("A", over[0])+"N bank F00 - 0 5")
	checkErrors(t, to, w, api.ErrName, of("A", unweighed[0])+"Z bank F00 - 0 5", of("A", over[0])+"B bank F50 - 0 5")
	checkErrors(t, to, w, api.ErrFlow, of("A", unweighed[0])+"B bank F80 - 0 5")
	check(t, to, w, append(level(1000, "A"), factOf("B bank F80 - 0 5")), nil, api.ErrFlow)
	// Seal's, of what fits as it was reported, and of what does not any more.
	for _, lines := range slices.Concat(over[:2], unweighed[:4]) {
		checkErrors(t, to, w, api.ErrOver, of("A", lines), of("G", lines)+usual)
	}
	const half = "B bank F20 - 0 4611686018427387903\nB bank F15 - 0 1\nB plant F20 - 0 1\n"
	checkText(t, rates, w, half, "B bank F20 - 0 9223372036854775806\nB bank F15 - 0 3\nB plant F20 - 0 2\n")
	checkErrors(t, to, w, api.ErrOver, half)
	if _, e := ask(t, seal, w, cubeOf(t, half)); e != api.OK {
		t.Errorf("Seal of %q: %d", half, e)
	}
	// Too many with the reserves.
	check(t, to, w, cubeOfFacts(t, level(1000, "B")), nil, api.ErrBig)
	check(t, to, w, cubeOfFacts(t, level(600, "B")), cubeOfFacts(t, sealedLevel(600)), api.OK)
	check(t, to, w, cubeOfFacts(t, level(666, "B")), nil, api.ErrBig)
}

// sealedLevel answers level of B, as it is told in the group's currency.
func sealedLevel(n int) []fact.Fact {
	l := slices.Concat(many(n, "B", "F00", 5), many(n, "B", "F99", 15), many(n, "B", "F80", 10))
	for i := 2 * n; i < 3*n; i++ {
		l[i].Key.Mark = fact.Scaled
	}
	for code, each := range map[string]int64{"F00": 5, "F80": 10, "F99": 15} {
		l = append(l, fact.Fact{Key: fact.Key{Entity: "B", Account: "res", Flow: code, Mark: fact.Scaled}, Amount: each * int64(n)})
	}
	return l
}

// small are amounts that fit together, great some that do not.
var small = []int64{1, -1, 2, -2, 3, 5, -5, 8}
var great = []int64{greatest, -greatest, least, greatest - 1, 1 << 62, -1 << 62, 1, -1}

// anyCube answers a cube of up to n facts of few names, also such as there are not.
func anyCube(t testing.TB, w world, r *rand.Rand, n int, from []int64) fact.Cube {
	t.Helper()
	pick := func(l ...string) string { return l[r.Intn(len(l))] }
	flows := []string{w.codeOf("open"), w.codeOf("close"), w.codeOf("close"), "F20", "F15", w.codeOf("scope")}
	entities := []string{"A", "B", "B", "C", "D"}
	if r.Intn(4) == 0 {
		flows = append(flows, w.codeOf("fx"))
	}
	if r.Intn(9) == 0 {
		flows, entities = append(flows, "F50", ""), append(entities, "G", "N", "P", "Q", "Z", "")
	}
	seen := map[fact.Key]int{}
	var l []fact.Fact
	for range r.Intn(n + 1) {
		k := fact.Key{
			Entity:  pick(entities...),
			Account: pick("bank", "bank", "due", "owe", "cap", w.reserve, "none"),
			Flow:    pick(flows...),
			Partner: pick("", "", "", "A", "B"),
			Mark:    r.Intn(6) - 1,
		}
		if seen[k]++; seen[k] == 1 {
			l = append(l, fact.Fact{Key: k, Amount: from[r.Intn(len(from))]})
		}
	}
	return cubeOfFacts(t, l)
}

// agreeing answers a cube without gaps in which each entity balances by each flow.
func agreeing(t testing.TB, w world, r *rand.Rand, n int, flows ...string) fact.Cube {
	t.Helper()
	var l []fact.Fact
	put := func(entity, account, flow, partner string, amount int64) {
		l = append(l, fact.Fact{Key: fact.Key{Entity: entity, Account: account, Flow: flow, Partner: partner, Mark: r.Intn(2)}, Amount: amount})
	}
	for range r.Intn(n + 1) {
		entity := []string{"A", "B", "C", "D"}[r.Intn(4)]
		account := []string{"bank", "due", "owe", "loan", "plant"}[r.Intn(5)]
		partner := []string{"", "A", "B"}[r.Intn(3)]
		flow := flows[r.Intn(len(flows))]
		amount := small[r.Intn(len(small))]
		own := amount
		if account == "owe" || account == "loan" {
			own = -amount
		}
		for _, code := range []string{flow, w.codeOf("close")} {
			put(entity, account, code, partner, amount)
			put(entity, "cap", code, "", own)
		}
	}
	return cubeOfFacts(t, l)
}

// TestAny holds all calls against the chapter's words, for cubes of few names with all kinds of facts.
func TestAny(t *testing.T) {
	r := rand.New(rand.NewSource(1))
	worlds := append(otherWorlds(t), usualWorld(t), worldOf(t, masterText, ""))
	errors := map[string]map[api.Errno]int{}
	for i := range 6000 {
		w := worlds[i%len(worlds)]
		c := anyCube(t, w, r, 1+i%23, small)
		switch i % 7 {
		case 0:
			c = anyCube(t, w, r, 12, great)
		case 1:
			c = agreeing(t, w, r, 1+i%9, w.codeOf("open"), w.codeOf("scope"), "F20", "F15", "F02")
		}
		for _, x := range calls {
			want, wantE := x.want(w, c)
			check(t, x, w, c, want, wantE)
			if errors[x.name] == nil {
				errors[x.name] = map[api.Errno]int{}
			}
			errors[x.name][wantE]++
		}
	}
	for name, of := range map[string][]api.Errno{
		"Rates": {api.OK, api.ErrName, api.ErrFlow, api.ErrRate, api.ErrOver}, "Even": {api.OK, api.ErrOver}, "Seal": {api.OK, api.ErrName, api.ErrOver},
		"To": {api.OK, api.ErrName, api.ErrFlow, api.ErrRate, api.ErrOver},
	} {
		for _, e := range of {
			if errors[name][e] < 50 {
				t.Errorf("the test's own: %s tells %d %d times", name, e, errors[name][e])
			}
		}
	}
}

// filter answers the facts that keep holds for.
func filter(c fact.Cube, keep func(f fact.Fact) bool) fact.Cube {
	var l fact.Cube
	for _, f := range c {
		if keep(f) {
			l = append(l, f)
		}
	}
	return l
}

// checkSealed asks P15.4 of what was sealed of c.
func checkSealed(t *testing.T, w world, c, sealed fact.Cube) {
	t.Helper()
	if e := control.Check(w.m, sealed); e != api.OK {
		t.Errorf("Check of %s, sealed as %s: %d", shown(c), shown(sealed), e)
	}
	check(t, seal, w, sealed, sealed, api.OK)
	check(t, even, w, sealed, sealed, api.OK)
	// No fact is changed but differences, and those of the reserve that are added.
	isOther := func(f fact.Fact) bool {
		isReserve := f.Key.Account == w.reserve && f.Key.Partner == "" && (w.kinds[f.Key.Flow] == "open" || w.kinds[f.Key.Flow] == "close")
		return f.Key.Mark != fact.Scaled || !isReserve && w.kinds[f.Key.Flow] != "fx"
	}
	if !slices.Equal(filter(c, isOther), filter(sealed, isOther)) {
		t.Errorf("%s was sealed as %s", shown(c), shown(sealed))
	}
}

// TestSealed asks P15.4 of cubes with all kinds of facts.
func TestSealed(t *testing.T) {
	r := rand.New(rand.NewSource(2))
	worlds := append(otherWorlds(t), usualWorld(t))
	changed, translated := 0, 0
	for i := range 3000 {
		w := worlds[i%len(worlds)]
		isKnown := func(f fact.Fact) bool { return w.currencies[f.Key.Entity] != "" }
		c := filter(anyCube(t, w, r, 1+i%29, small), isKnown)
		d, e := Seal(w.m, c)
		if e != api.OK {
			t.Fatalf("Seal of %s: %d", shown(c), e)
		}
		checkSealed(t, w, c, d)
		if !slices.Equal(c, d) {
			changed++
		}
		rated, e := Rates(w.m, w.t, c)
		if e != api.OK {
			continue
		}
		d, e = To(w.m, w.t, c)
		if e != api.OK {
			t.Fatalf("To of %s: %d", shown(c), e)
		}
		checkSealed(t, w, rated, d)
		translated++
	}
	if changed < 1000 || translated < 1000 {
		t.Errorf("the test's own: %d were changed, %d were translated", changed, translated)
	}
}

// TestEvened asks that no gap is left behind Even, and that nothing but differences is changed.
func TestEvened(t *testing.T) {
	r := rand.New(rand.NewSource(3))
	worlds := append(otherWorlds(t), usualWorld(t))
	for i := range 1500 {
		w := worlds[i%len(worlds)]
		c := anyCube(t, w, r, 1+i%29, small)
		d, e := Even(w.m, c)
		if e != api.OK {
			t.Fatalf("Even of %s: %d", shown(c), e)
		}
		if e := control.Check(w.m, d); e != api.OK && e != api.ErrBalance {
			t.Errorf("Check of %s, evened as %s: %d", shown(c), shown(d), e)
		}
		isOther := func(f fact.Fact) bool { return w.kinds[f.Key.Flow] != "fx" || f.Key.Mark != fact.Scaled }
		if !slices.Equal(filter(c, isOther), filter(d, isOther)) {
			t.Errorf("%s was evened as %s", shown(c), shown(d))
		}
	}
}

// TestAgreeing asks P15.4 of cubes that agree: they are left as they are; and,
// translated at rates that are whole numbers, they need no reserve.
func TestAgreeing(t *testing.T) {
	r := rand.New(rand.NewSource(4))
	worlds := append(otherWorlds(t), usualWorld(t))
	for i := range 600 {
		w := worlds[i%len(worlds)]
		c := agreeing(t, w, r, 1+i%30, w.codeOf("open"), "F20", "F02", w.codeOf("scope"), w.codeOf("fx"))
		if e := control.Check(w.m, c); e != api.OK {
			t.Fatalf("the test's own: Check of %s: %d", shown(c), e)
		}
		check(t, even, w, c, c, api.OK)
		check(t, seal, w, c, c, api.OK)
		// In the group's currency nothing is changed at all, if no fact is of the kind Fx.
		inGroups := func(f fact.Fact) bool { return w.currencies[f.Key.Entity] == w.group && w.kinds[f.Key.Flow] != "fx" }
		check(t, rates, w, filter(c, inGroups), filter(c, inGroups), api.OK)
		c = agreeing(t, w, r, 1+i%30, w.codeOf("open"), "F20")
		c = filter(c, func(f fact.Fact) bool { return f.Key.Entity != "C" })
		d, e := To(w.m, w.t, c)
		isReserve := func(f fact.Fact) bool {
			return f.Key.Account == w.reserve && f.Key.Mark == fact.Scaled && w.kinds[f.Key.Flow] != "fx"
		}
		if e != api.OK || slices.ContainsFunc(d, isReserve) {
			t.Errorf("To of %s = %s, %d", shown(c), shown(d), e)
		}
		rated, _ := Rates(w.m, w.t, c)
		checkSealed(t, w, rated, d)
	}
}

// TestSealedOver has cubes whose sums fit, and fit no more with what is added
// between them: Seal tells what P15.2 says, though P15.4 can't hold of it.
func TestSealedOver(t *testing.T) {
	w := usualWorld(t)
	for _, x := range []struct{ lines, more string }{
		// The difference stands ahead of the change of scope.
		{"B bank F00 - 0 -9223372036854775807\nB bank F98 - 0 50\nB bank F99 - 0 -9223372036854775767\n", "B bank F80 - 2 -10\nB res F00 - 2 -9223372036854775807\nB res F80 - 2 40\nB res F99 - 2 -9223372036854775767"},
		// The reserve stands ahead of other equity.
		{"B bank F00 - 0 9223372036854775807\nB bank F20 - 0 -9223372036854775807\nB sub F00 - 0 9223372036854775807\nB sub F20 - 0 -9223372036854775807\nB sub F00 A 0 5\nB sub F20 A 0 -5\n", "B res F00 - 2 -5\nB res F80 - 2 5"},
	} {
		sealed := cubeOf(t, x.lines, x.more)
		check(t, seal, w, cubeOf(t, x.lines), sealed, api.OK)
		check(t, seal, w, sealed, nil, api.ErrOver)
		if e := control.Check(w.m, sealed); e != api.ErrOver {
			t.Errorf("Check of %s: %d", shown(sealed), e)
		}
	}
}

// TestAnew changes what was answered, and asks again: nothing is kept, and
// nothing handed in, or answered to another, is a part of it.
func TestAnew(t *testing.T) {
	w := usualWorld(t)
	level := cubeOf(t, "A bank F00 - 0 5\nA bank F99 - 0 5\nA cap F00 - 0 5\nA cap F99 - 0 5")
	for _, x := range calls {
		for _, c := range []fact.Cube{level, cubeOf(t, usual)} {
			before := slices.Clone(c)
			want, wantE := x.want(w, c)
			a, _ := x.is(w, c)
			b, e := x.is(w, c)
			spoil(a)
			if !slices.Equal(b, want) || e != wantE || !slices.Equal(c, before) {
				t.Errorf("%s of %s = %s, %d, with another answer changed", x.name, shown(c), shown(b), e)
			}
		}
	}
	// Other calls, master data and tables between: what is told stays.
	none, other := worldOf(t, masterText, ""), otherWorlds(t)[0]
	for range 2 {
		checkText(t, to, w, usual, usualRated+usualDifferences+usualReserve)
		checkErrors(t, to, none, api.ErrRate, usual)
		checkErrors(t, seal, w, api.ErrOver, of("B", over[0]))
		checkAll(t, other, cubeOf(t, usual))
		check(t, rates, none, level, level, api.OK)
		check(t, seal, w, nil, nil, api.OK)
	}
}

// TestNoMasters calls with master data that no text tells, tables of others,
// and facts that are no cube: nothing is asked but that the calls end, change
// nothing, have nothing beside an error, and answer the same again.
func TestNoMasters(t *testing.T) {
	r := rand.New(rand.NewSource(5))
	some := []string{"", "A", "B", "EUR", "USD", "bank", "res", "F00", "F20", "F80", "F99", "F", "é", "\xff", " ", "-", strings.Repeat("x", 100)}
	anyName := func() string { return some[r.Intn(len(some))] }
	usual := usualWorld(t)
	back := slices.Clone(usual.m.Flows)
	slices.Reverse(back)
	still := usual.m
	still.Flows = nil
	bare := usual.m
	bare.Reserve = ""
	masters := []unit.Master{
		{}, usual.m, still, bare, {Entities: usual.m.Entities}, {Chart: usual.m.Chart, Flows: usual.m.Flows},
		{Chart: usual.m.Chart, Flows: back, Entities: usual.m.Entities}, {Chart: usual.m.Chart, Flows: slices.Concat(usual.m.Flows, usual.m.Flows), Entities: slices.Concat(usual.m.Entities, usual.m.Entities)},
		{Flows: flow.List{{}}, Entities: []unit.Entity{{}}, Chart: chart.Chart{{}}},
	}
	for range 600 {
		m := unit.Master{Currency: anyName(), Reserve: anyName()}
		for range r.Intn(9) {
			m.Chart = append(m.Chart, chart.Account{Code: anyName(), Class: r.Intn(6) - 2, Mutual: r.Intn(2) == 0, Fixed: anyName()})
			m.Flows = append(m.Flows, flow.Flow{Code: anyName(), Kind: r.Intn(9) - 2})
			m.Entities = append(m.Entities, unit.Entity{Code: anyName(), Currency: anyName()})
		}
		masters = append(masters, m)
	}
	anyFacts := func() fact.Cube {
		var c fact.Cube
		for range r.Intn(40) {
			k := fact.Key{Entity: anyName(), Account: anyName(), Flow: anyName(), Partner: anyName(), Mark: r.Intn(9) - 2}
			c = append(c, fact.Fact{Key: k, Amount: []int64{0, 1, -1, 7, least, greatest}[r.Intn(6)]})
		}
		return c
	}
	for _, m := range masters {
		for _, x := range []course.Table{{}, usual.t} {
			c := anyFacts()
			checkEnds(t, world{m: m, t: x}, c)
			checkEnds(t, world{m: m, t: x}, slices.Concat(c, c))
			checkEnds(t, world{m: m, t: x}, nil)
			checkEnds(t, world{m: m, t: x}, many(3, "B", "F99", 5))
		}
	}
}

func checkEnds(t *testing.T, w world, c fact.Cube) {
	t.Helper()
	for _, x := range calls {
		d, e := ask(t, x, w, c)
		again, eAgain := ask(t, x, w, c)
		if !slices.Equal(d, again) || e != eAgain || e != api.OK && len(d) != 0 {
			t.Errorf("%s = %s, %d, and %s, %d", x.name, shown(d), e, shown(again), eAgain)
		}
	}
}

// FuzzAll holds all calls against the chapter's words, of a cube whose facts are told by four bytes each.
func FuzzAll(f *testing.F) {
	for _, s := range []string{"", "\x01\x00\x02\x05", "\x01\x00\x02\x05\x01\x01\x02\x05\x0e\x01\x02\x03", "\x12\x34\x56\x78\x9a\xbc\xde\xf0\x01\x02\x03\x04"} {
		f.Add([]byte(s))
	}
	worlds := append(otherWorlds(f), usualWorld(f))
	f.Fuzz(func(t *testing.T, b []byte) {
		w := worlds[len(b)%len(worlds)]
		seen := map[fact.Key]int{}
		var l []fact.Fact
		for ; len(b) >= 4 && len(l) < 100; b = b[4:] {
			k := fact.Key{
				Entity:  []string{"A", "B", "C", "D", "G", "N", "", "Z"}[b[0]%8],
				Account: []string{"bank", "due", "owe", "cap", w.reserve, "none", "plant", "sub"}[b[0]/8%8],
				Flow:    []string{w.codeOf("open"), w.codeOf("close"), "F20", w.codeOf("scope"), "F15", "F02", w.codeOf("fx"), "F50"}[b[1]%8],
				Partner: []string{"", "", "A", "B"}[b[1]/8%4],
				Mark:    int(b[2] % 6),
			}
			if seen[k]++; seen[k] == 1 {
				l = append(l, fact.Fact{Key: k, Amount: slices.Concat(small, great)[b[3]%16]})
			}
		}
		checkAll(t, w, cubeOfFacts(t, l))
	})
}

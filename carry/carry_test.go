package carry

import (
	"fmt"
	"math"
	"math/big"
	"math/rand"
	"slices"
	"sort"
	"strconv"
	"strings"
	"testing"

	"comptroller/api"
	"comptroller/chart"
	"comptroller/fact"
	"comptroller/flow"
	"comptroller/unit"
)

const (
	least    = math.MinInt64
	greatest = math.MaxInt64
)

// masterText is the text of ordinary master data; the flow of opening stands
// ahead of all others, that of closing behind them.
const masterText = `group USD
account bank asset cash
account due asset mutual
account owe liability mutual
account cap equity
account dif asset
flow F99 close
flow F00 open
flow F20 move
flow F15 move
flow F80 fx
flow F98 scope
entity B EUR
entity A USD
reserve cap
minor cap
differ dif
stake dif
`

// world is master data, and what the test itself reads in their text: the
// kinds of flows by their words, and the flow of opening.
type world struct {
	m       unit.Master
	kinds   map[string]string
	opening string
}

func worldOf(t testing.TB, s string) world {
	t.Helper()
	m, e := unit.Parse(s)
	if e != api.OK {
		t.Fatalf("master data: %d", e)
	}
	w := world{m, map[string]string{}, ""}
	for line := range strings.Lines(s) {
		words := strings.Fields(line)
		if words[0] != "flow" {
			continue
		}
		w.kinds[words[1]] = words[2]
		if words[2] == "open" {
			w.opening = words[1]
		}
	}
	return w
}

func usualWorld(t testing.TB) world {
	t.Helper()
	return worldOf(t, masterText)
}

// otherWorlds are such whose flows of opening and of closing stand elsewhere
// among the others, and have other codes.
func otherWorlds(t testing.TB) []world {
	t.Helper()
	var l []world
	for _, codes := range [][2]string{
		{"F99", "F00"}, // opening behind all, closing ahead of all
		{"F17", "F16"}, {"F16", "F17"}, {"A", "B"}, {"B", "A"}, {"z", "y"}, {"y", "z"},
		{"close", "open"}, {"F", "f"}, {"F2", "F200"}, {"bank", "cap"}, {"o.-_", "o._-"},
	} {
		r := strings.NewReplacer("flow F00", "flow "+codes[0], "flow F99", "flow "+codes[1])
		l = append(l, worldOf(t, r.Replace(masterText)))
	}
	return l
}

// codeOf answers the code of w's flow of a kind of which there is but one.
func (w world) codeOf(kind string) string {
	for code, other := range w.kinds {
		if other == kind {
			return code
		}
	}
	panic(kind)
}

// factOf answers the fact of a line: Entity, Account, Flow, Partner, Mark and Amount; "-" is "".
func factOf(line string) fact.Fact {
	words := strings.Fields(line)
	for i, word := range words {
		if word == "-" {
			words[i] = ""
		}
	}
	mark, err := strconv.Atoi(words[4])
	if err != nil {
		panic(line)
	}
	amount, err := strconv.ParseInt(words[5], 10, 64)
	if err != nil {
		panic(line)
	}
	return fact.Fact{Key: fact.Key{Entity: words[0], Account: words[1], Flow: words[2], Partner: words[3], Mark: mark}, Amount: amount}
}

// cubeOf answers the cube of lines, which may stand in any order, and be many in one text.
func cubeOf(t testing.TB, lines ...string) fact.Cube {
	t.Helper()
	var l []fact.Fact
	for line := range strings.Lines(strings.Join(lines, "\n")) {
		if strings.TrimSpace(line) != "" {
			l = append(l, factOf(line))
		}
	}
	return cubeOfFacts(t, l)
}

func cubeOfFacts(t testing.TB, l []fact.Fact) fact.Cube {
	t.Helper()
	c, e := fact.Of(l)
	if e != api.OK || !fact.Right(c) {
		t.Fatalf("the test's own: no cube: %d of %s", e, told(l))
	}
	return c
}

// told answers what it is given so that each byte can be seen; only the beginning, if it is long.
func told(what any) string {
	s := fmt.Sprintf("%q", fmt.Sprintf("%+v", what))
	return s[:min(len(s), 800)]
}

// wantCube answers the cube of facts, by numbers of any size.
func wantCube(facts []fact.Fact) (fact.Cube, api.Errno) {
	sums := map[fact.Key]*big.Int{}
	for _, f := range facts {
		if sums[f.Key] == nil {
			sums[f.Key] = new(big.Int)
		}
		if !sums[f.Key].Add(sums[f.Key], big.NewInt(f.Amount)).IsInt64() {
			return nil, api.ErrOver
		}
	}
	var c fact.Cube
	for k, sum := range sums {
		if sum.Sign() != 0 {
			c = append(c, fact.Fact{Key: k, Amount: sum.Int64()})
		}
	}
	if len(c) > 2000 {
		return nil, api.ErrBig
	}
	sort.Slice(c, func(i, j int) bool { return fact.Cmp(c[i].Key, c[j].Key) < 0 })
	return c, api.OK
}

// wantOpening answers the facts by flows of a kind as those of an opening.
func wantOpening(w world, c fact.Cube, kind string) (fact.Cube, api.Errno) {
	var l []fact.Fact
	for _, f := range c {
		if w.kinds[f.Key.Flow] == kind {
			k := fact.Key{Entity: f.Key.Entity, Account: f.Key.Account, Flow: w.opening, Partner: f.Key.Partner, Mark: 0}
			l = append(l, fact.Fact{Key: k, Amount: f.Amount})
		}
	}
	return wantCube(l)
}

// wantOpen answers what P13.1 asks of Open.
func wantOpen(w world, prior fact.Cube) (fact.Cube, api.Errno) {
	return wantOpening(w, prior, "close")
}

// wantCheck answers what P13.2 asks of Check.
func wantCheck(w world, prior, c fact.Cube) api.Errno {
	was, e := wantOpen(w, prior)
	if e != api.OK {
		return e
	}
	is, e := wantOpening(w, c, "open")
	if e != api.OK {
		return e
	}
	if !slices.Equal(was, is) {
		return api.ErrFlow
	}
	return api.OK
}

// wantBring answers what P13.3 asks of Bring.
func wantBring(w world, prior, c fact.Cube) (fact.Cube, api.Errno) {
	opening, e := wantOpen(w, prior)
	if e != api.OK {
		return nil, e
	}
	return wantCube(append(others(w, c), opening...))
}

// others answers the facts of c that are no opening, in order.
func others(w world, c fact.Cube) fact.Cube {
	var l fact.Cube
	for _, f := range c {
		if w.kinds[f.Key.Flow] != "open" {
			l = append(l, f)
		}
	}
	return l
}

// same tells whether both are the same master data.
func same(a, b unit.Master) bool {
	return slices.Equal(a.Chart, b.Chart) && slices.Equal(a.Flows, b.Flows) && slices.Equal(a.Entities, b.Entities) && slices.Equal(a.Lines, b.Lines) &&
		a.Currency == b.Currency && a.Reserve == b.Reserve && a.Differ == b.Differ && a.Minor == b.Minor && a.Stake == b.Stake
}

// copied answers master data that share no list with m.
func copied(m unit.Master) unit.Master {
	m.Chart, m.Flows = slices.Clone(m.Chart), slices.Clone(m.Flows)
	m.Entities, m.Lines = slices.Clone(m.Entities), slices.Clone(m.Lines)
	return m
}

// room answers c with place for more facts behind it, which is not the callee's to use.
func room(c fact.Cube) fact.Cube {
	more := make(fact.Cube, len(c)+5)
	for i := copy(more, c); i < len(more); i++ {
		more[i] = spare
	}
	return more[:len(c)]
}

// spare is what stands in a cube's place for more.
var spare = fact.Fact{Key: fact.Key{Entity: "spare"}, Amount: 77}

// unchanged calls with cubes that have place for more, and tells whether what
// is handed in is as it was, also behind its end.
func unchanged(t *testing.T, m unit.Master, prior, c fact.Cube, call func(prior, c fact.Cube)) {
	t.Helper()
	before := copied(m)
	priorRoom, cRoom := room(prior), room(c)
	call(priorRoom, cRoom)
	if !same(m, before) {
		t.Errorf("master data %s were changed", told(before))
	}
	for _, x := range [][2]fact.Cube{{prior, priorRoom}, {c, cRoom}} {
		behind := x[1][len(x[1]):cap(x[1])]
		if !slices.Equal(x[0], x[1]) || slices.ContainsFunc(behind, func(f fact.Fact) bool { return f != spare }) {
			t.Errorf("%s was changed", told(x[0]))
		}
	}
}

// spoil changes what was answered, also behind its end: it is the caller's.
func spoil(c fact.Cube) {
	c = c[:cap(c)]
	for i := range c {
		c[i] = fact.Fact{Amount: 99}
	}
}

// checkCube holds what a call answered against what it should.
func checkCube(t *testing.T, call string, got fact.Cube, e api.Errno, want fact.Cube, wantE api.Errno) {
	t.Helper()
	if !slices.Equal(got, want) || e != wantE {
		t.Errorf("%s = %s, %d; want %s, %d", call, told(got), e, told(want), wantE)
	}
	if e == api.OK && !fact.Right(got) {
		t.Errorf("%s = %s, which is no cube", call, told(got))
	}
}

func checkOpen(t *testing.T, w world, prior, want fact.Cube, wantE api.Errno) {
	t.Helper()
	unchanged(t, w.m, prior, nil, func(prior, _ fact.Cube) {
		got, e := Open(w.m, prior)
		checkCube(t, "Open of "+told(prior), got, e, want, wantE)
		spoil(got)
	})
	got, e := wantOpen(w, prior)
	checkCube(t, "the test's own: Open of "+told(prior), got, e, want, wantE)
}

func checkCheck(t *testing.T, w world, prior, c fact.Cube, want api.Errno) {
	t.Helper()
	unchanged(t, w.m, prior, c, func(prior, c fact.Cube) {
		if e := Check(w.m, prior, c); e != want {
			t.Errorf("Check of %s and %s = %d; want %d", told(prior), told(c), e, want)
		}
	})
	if e := wantCheck(w, prior, c); e != want {
		t.Errorf("the test's own: Check of %s and %s is %d", told(prior), told(c), e)
	}
}

func checkBring(t *testing.T, w world, prior, c, want fact.Cube, wantE api.Errno) {
	t.Helper()
	unchanged(t, w.m, prior, c, func(prior, c fact.Cube) {
		got, e := Bring(w.m, prior, c)
		checkCube(t, "Bring of "+told(prior)+" and "+told(c), got, e, want, wantE)
		spoil(got)
	})
	got, e := wantBring(w, prior, c)
	checkCube(t, "the test's own: Bring of "+told(prior)+" and "+told(c), got, e, want, wantE)
}

// checkBrought asks P13.4: what was brought is checked, and brought twice it is the same.
func checkBrought(t *testing.T, w world, prior, c fact.Cube) {
	t.Helper()
	b, e := Bring(w.m, prior, c)
	if e != api.OK {
		return
	}
	if e := Check(w.m, prior, b); e != api.OK {
		t.Errorf("Check of %s and what was brought, %s: %d", told(prior), told(b), e)
	}
	again, e := Bring(w.m, prior, b)
	checkCube(t, "Bring again of "+told(prior)+" and "+told(c), again, e, b, api.OK)
	if !slices.Equal(others(w, c), others(w, b)) {
		t.Errorf("Bring of %s and %s changed what is no opening: %s", told(prior), told(c), told(b))
	}
}

// checkAll holds all three calls against the chapter's words.
func checkAll(t *testing.T, w world, prior, c fact.Cube) {
	t.Helper()
	d, e := wantOpen(w, prior)
	checkOpen(t, w, prior, d, e)
	checkCheck(t, w, prior, c, wantCheck(w, prior, c))
	d, e = wantBring(w, prior, c)
	checkBring(t, w, prior, c, d, e)
	checkBrought(t, w, prior, c)
}

// usualPrior and usualCube are ordinary cubes of two years; the second opens otherwise than the first closed.
const (
	usualPrior = `
		A bank F00 - 0 5
		A bank F20 - 0 2
		A bank F99 - 0 6
		A bank F99 - 1 1
		A due F99 B 0 4
		A cap F00 - 0 5
		A cap F99 - 0 11
		B owe F99 A 0 4
		B bank F80 - 2 1
		B bank F99 - 2 9
		B cap F99 - 0 5
	`
	usualCube = `
		A bank F00 - 0 100
		A bank F20 - 0 3
		A bank F99 - 0 103
		A due F00 B 1 4
		A due F98 B 0 -4
		B cap F15 - 1 8
		B cap F80 - 2 1
	`
	usualOpening = `
		A bank F00 - 0 7
		A cap F00 - 0 11
		A due F00 B 0 4
		B bank F00 - 0 9
		B cap F00 - 0 5
		B owe F00 A 0 4
	`
	usualRest = `
		A bank F20 - 0 3
		A bank F99 - 0 103
		A due F98 B 0 -4
		B cap F15 - 1 8
		B cap F80 - 2 1
	`
)

func TestUsual(t *testing.T) {
	w := usualWorld(t)
	prior, c, opening := cubeOf(t, usualPrior), cubeOf(t, usualCube), cubeOf(t, usualOpening)
	brought := cubeOf(t, usualRest, usualOpening)
	checkOpen(t, w, prior, opening, api.OK)
	checkCheck(t, w, prior, c, api.ErrFlow)
	checkCheck(t, w, prior, opening, api.OK)
	checkBring(t, w, prior, c, brought, api.OK)
	checkCheck(t, w, prior, brought, api.OK)
	checkBring(t, w, prior, brought, brought, api.OK)
	checkBrought(t, w, prior, c)
	// The year after opens with what c closes with, not with what it opens with.
	checkOpen(t, w, c, cubeOf(t, "A bank F00 - 0 103"), api.OK)
	checkOpen(t, w, opening, nil, api.OK)
	checkAll(t, w, c, prior)
	checkAll(t, w, prior, prior)
}

// TestExample is the chapter's: by its codes of flows.
func TestExample(t *testing.T) {
	w := worldOf(t, strings.NewReplacer("F00", "F0", "F99", "Fz").Replace(masterText))
	prior, opening := cubeOf(t, "A bank Fz - 0 7"), cubeOf(t, "A bank F0 - 0 7")
	checkOpen(t, w, prior, opening, api.OK)
	checkCheck(t, w, prior, opening, api.OK)
	checkBring(t, w, prior, prior, cubeOf(t, "A bank F0 - 0 7\nA bank Fz - 0 7"), api.OK)
}

func TestEmpty(t *testing.T) {
	w := usualWorld(t)
	prior, c := cubeOf(t, usualPrior), cubeOf(t, usualCube)
	for _, empty := range []fact.Cube{nil, {}} {
		checkOpen(t, w, empty, nil, api.OK)
		checkCheck(t, w, empty, empty, api.OK)
		checkBring(t, w, empty, empty, nil, api.OK)
		// As prior.
		checkCheck(t, w, empty, c, api.ErrFlow)
		checkCheck(t, w, empty, cubeOf(t, usualRest), api.OK)
		checkBring(t, w, empty, c, cubeOf(t, usualRest), api.OK)
		checkBring(t, w, empty, cubeOf(t, "A bank F00 - 0 5"), nil, api.OK)
		checkBrought(t, w, empty, c)
		// As c.
		checkCheck(t, w, prior, empty, api.ErrFlow)
		checkCheck(t, w, cubeOf(t, "A bank F00 - 0 5\nA bank F20 - 0 5"), empty, api.OK)
		checkBring(t, w, prior, empty, cubeOf(t, usualOpening), api.OK)
		checkBring(t, w, cubeOf(t, "A bank F00 - 0 5"), empty, nil, api.OK)
		checkBrought(t, w, prior, empty)
	}
	checkCheck(t, w, nil, fact.Cube{}, api.OK)
	checkCheck(t, w, fact.Cube{}, nil, api.OK)
}

// opened are cubes, and what opens behind them.
var opened = []struct{ prior, want string }{
	// A flow of each kind alone, and all of them.
	{"A bank F00 - 0 5", ""}, {"A bank F15 - 0 5", ""}, {"A bank F20 - 0 5", ""}, {"A bank F80 - 0 5", ""}, {"A bank F98 - 0 5", ""},
	{"A bank F99 - 0 5", "A bank F00 - 0 5"}, {"A bank F99 - 0 -5", "A bank F00 - 0 -5"},
	{"A bank F00 - 0 1\nA bank F15 - 0 2\nA bank F20 - 0 4\nA bank F80 - 0 8\nA bank F98 - 0 16\nA bank F99 - 0 32", "A bank F00 - 0 32"},
	{"A bank F00 - 0 5\nA bank F99 - 0 -5", "A bank F00 - 0 -5"},
	// Flows that there are not, alone and beside others.
	{"A bank F50 - 0 5", ""}, {"A bank - - 0 5", ""}, {"A bank f99 - 0 5", ""}, {"A bank F9 - 0 5", ""}, {"A bank F999 - 0 5", ""}, {"A bank close - 0 5", ""}, {"A bank bank - 0 5", ""},
	{"A bank F50 - 0 5\nA bank - - 0 6\nA bank F99 - 0 7\nA bank Z - 0 8", "A bank F00 - 0 7"},
	{"A bank F50 - 0 5\nA cap F99 - 0 7", "A cap F00 - 0 7"},
	// An account, or an entity, that the master data have not, opens too.
	{"A none F99 - 0 5", "A none F00 - 0 5"}, {"C bank F99 - 0 5", "C bank F00 - 0 5"}, {"C none F99 D 3 5", "C none F00 D 0 5"},
	{"- bank F99 - 0 5", "- bank F00 - 0 5"}, {"A - F99 - 0 5", "A - F00 - 0 5"}, {"- - F99 - 1 5", "- - F00 - 0 5"},
	{"A bank F99 - 0 1\nA none F99 - 0 2\nC bank F99 - 0 4\nC none F50 - 0 8", "A bank F00 - 0 1\nA none F00 - 0 2\nC bank F00 - 0 4"},
	// Partners: each stays, also where the account, or the partner, may have none.
	{"A due F99 B 0 5", "A due F00 B 0 5"}, {"A due F99 - 0 5", "A due F00 - 0 5"}, {"A bank F99 B 0 5", "A bank F00 B 0 5"}, {"A due F99 A 0 5", "A due F00 A 0 5"}, {"A due F99 none 0 5", "A due F00 none 0 5"},
	{"A due F99 B 0 5\nA due F99 C 0 7\nA due F99 - 0 9", "A due F00 B 0 5\nA due F00 C 0 7\nA due F00 - 0 9"},
	{"A due F99 B 0 5\nA due F99 C 0 -5", "A due F00 B 0 5\nA due F00 C 0 -5"},
	// Each mark alone, and all of them.
	{"A bank F99 - 1 5", "A bank F00 - 0 5"}, {"A bank F99 - 2 5", "A bank F00 - 0 5"}, {"A bank F99 - 3 5", "A bank F00 - 0 5"}, {"A bank F99 - 4 5", "A bank F00 - 0 5"},
	{"A bank F99 - -1 5", "A bank F00 - 0 5"}, {"A bank F99 - 9 5", "A bank F00 - 0 5"},
	{"A bank F99 - 0 1\nA bank F99 - 1 2\nA bank F99 - 2 4\nA bank F99 - 3 8\nA bank F99 - 4 16", "A bank F00 - 0 31"},
	// One but for the mark; those that are another's stay apart.
	{"A bank F99 - 0 5\nA bank F99 - 1 2", "A bank F00 - 0 7"},
	{"A bank F99 - 0 5\nA bank F99 - 1 -5", ""}, {"A bank F99 - 2 -5\nA bank F99 - 4 5\nA cap F99 - 0 5", "A cap F00 - 0 5"},
	{"A bank F99 - 0 5\nA bank F99 B 1 2", "A bank F00 - 0 5\nA bank F00 B 0 2"},
	{"A bank F99 - 0 5\nA cap F99 - 1 2", "A bank F00 - 0 5\nA cap F00 - 0 2"},
	{"A bank F99 - 0 5\nB bank F99 - 1 2", "A bank F00 - 0 5\nB bank F00 - 0 2"},
	{"A bank F99 - 0 5\nA bank F98 - 1 2\nA bank F50 - 2 4", "A bank F00 - 0 5"},
	// Amounts at both ends.
	{"A bank F99 - 0 9223372036854775807", "A bank F00 - 0 9223372036854775807"},
	{"A bank F99 - 4 -9223372036854775808", "A bank F00 - 0 -9223372036854775808"},
	{"A bank F99 - 0 9223372036854775806\nA bank F99 - 1 1", "A bank F00 - 0 9223372036854775807"},
	{"A bank F99 - 0 -9223372036854775807\nA bank F99 - 1 -1", "A bank F00 - 0 -9223372036854775808"},
	{"A bank F99 - 0 9223372036854775807\nA bank F99 - 1 -9223372036854775808", "A bank F00 - 0 -1"},
	{"A bank F99 - 0 9223372036854775807\nA bank F99 - 1 -1\nA bank F99 - 2 1", "A bank F00 - 0 9223372036854775807"},
	{"A bank F99 - 0 9223372036854775807\nA bank F99 B 0 9223372036854775807\nA bank F98 - 1 9223372036854775807", "A bank F00 - 0 9223372036854775807\nA bank F00 B 0 9223372036854775807"},
}

// overs are cubes whose closing does not fit together, in the end or on the way.
var overs = []string{
	"A bank F99 - 0 9223372036854775807\nA bank F99 - 1 1",
	"A bank F99 - 3 1\nA bank F99 - 4 9223372036854775807",
	"A bank F99 - 0 -9223372036854775808\nA bank F99 - 1 -1",
	"A bank F99 - 0 -9223372036854775808\nA bank F99 - 1 -9223372036854775808",
	"A bank F99 - 0 9223372036854775807\nA bank F99 - 1 1\nA bank F99 - 2 -1",
	"A bank F99 - 0 -9223372036854775808\nA bank F99 - 2 -1\nA bank F99 - 3 1",
	"C none F99 B 0 9223372036854775807\nC none F99 B 1 1",
	"A bank F99 - 0 5\nA cap F99 - 0 9223372036854775807\nA cap F99 - 1 1\nB bank F99 - 0 5",
}

func TestOpen(t *testing.T) {
	w := usualWorld(t)
	for _, x := range opened {
		prior, want := cubeOf(t, x.prior), cubeOf(t, x.want)
		checkOpen(t, w, prior, want, api.OK)
		checkAll(t, w, prior, want)
		checkAll(t, w, prior, prior)
		checkAll(t, w, want, prior)
	}
	for _, lines := range overs {
		checkOpen(t, w, cubeOf(t, lines), nil, api.ErrOver)
		// By another flow they are not put together.
		for _, flow := range []string{"F00", "F15", "F80", "F98", "F50", "-"} {
			other := cubeOf(t, strings.ReplaceAll(lines, "F99", flow))
			checkOpen(t, w, other, nil, api.OK)
		}
	}
}

// TestOpenPlace has the flow of opening ahead of others, and behind them.
func TestOpenPlace(t *testing.T) {
	for _, w := range otherWorlds(t) {
		in := func(lines string) fact.Cube {
			r := strings.NewReplacer("F00", w.codeOf("open"), "F99", w.codeOf("close"))
			return cubeOf(t, r.Replace(lines))
		}
		for _, x := range opened {
			// Some codes that there are not in the usual world are there in another.
			if strings.Contains(x.prior, " close ") || strings.Contains(x.prior, " bank bank ") {
				continue
			}
			checkOpen(t, w, in(x.prior), in(x.want), api.OK)
			checkAll(t, w, in(x.prior), in(usualCube))
		}
		for _, lines := range overs {
			checkOpen(t, w, in(lines), nil, api.ErrOver)
		}
		checkBring(t, w, in(usualPrior), in(usualCube), in(usualRest+usualOpening), api.OK)
		checkCheck(t, w, in(usualPrior), in(usualRest+usualOpening), api.OK)
		checkCheck(t, w, in(usualPrior), in(usualCube), api.ErrFlow)
		checkBrought(t, w, in(usualPrior), in(usualCube))
	}
}

func TestCheck(t *testing.T) {
	w := usualWorld(t)
	const prior = "A bank F99 - 0 5\nA due F99 B 0 7\nB cap F99 - 1 9\n"
	const bank, due, own = "A bank F00 - 0 5\n", "A due F00 B 0 7\n", "B cap F00 - 0 9\n"
	for _, x := range []struct {
		lines string
		want  api.Errno
	}{
		{bank + due + own, api.OK},
		// One less, and one more.
		{due + own, api.ErrFlow}, {bank + own, api.ErrFlow}, {bank + due, api.ErrFlow}, {bank, api.ErrFlow}, {"", api.ErrFlow},
		{bank + due + own + "A bank F00 B 0 1", api.ErrFlow}, {bank + due + own + "A cap F00 - 0 1", api.ErrFlow}, {bank + due + own + "C none F00 - 0 1", api.ErrFlow},
		{bank + due + own + "- - F00 - 0 1", api.ErrFlow}, {bank + due + own + "Z z F00 Z 4 -1", api.ErrFlow},
		// Another amount.
		{"A bank F00 - 0 6\n" + due + own, api.ErrFlow}, {"A bank F00 - 0 -5\n" + due + own, api.ErrFlow}, {bank + due + "B cap F00 - 0 10", api.ErrFlow}, {bank + "A due F00 B 0 6\n" + own, api.ErrFlow},
		{"A bank F00 - 0 7\nA due F00 B 0 5\n" + own, api.ErrFlow}, {"A bank F00 - 0 4\nA due F00 B 0 8\n" + own, api.ErrFlow},
		// Another entity, account or partner.
		{"B bank F00 - 0 5\n" + due + own, api.ErrFlow}, {"A cap F00 - 0 5\n" + due + own, api.ErrFlow}, {"A bank F00 B 0 5\n" + due + own, api.ErrFlow},
		{bank + "A due F00 - 0 7\n" + own, api.ErrFlow}, {bank + "A due F00 C 0 7\n" + own, api.ErrFlow}, {bank + "A due F00 A 0 7\n" + own, api.ErrFlow},
		// Another mark counts nothing.
		{"A bank F00 - 1 5\n" + due + own, api.OK}, {"A bank F00 - 4 5\nA due F00 B 3 7\nB cap F00 - 2 9", api.OK}, {bank + due + "B cap F00 - 1 9", api.OK}, {bank + due + "B cap F00 - -7 9", api.OK},
		// One but for the mark.
		{"A bank F00 - 0 2\nA bank F00 - 1 3\n" + due + own, api.OK}, {"A bank F00 - 3 -2\nA bank F00 - 4 7\n" + due + own, api.OK},
		{bank + "A bank F00 - 1 1\n" + due + own, api.ErrFlow}, {bank + "A bank F00 - 1 5\n" + due + own, api.ErrFlow}, {bank + "A bank F00 - 1 -5\n" + due + own, api.ErrFlow},
		{bank + due + own + "A cap F00 - 0 3\nA cap F00 - 1 -3", api.OK}, {bank + due + own + "A cap F00 - 0 3\nA cap F00 - 1 -2", api.ErrFlow},
		// Those that do not fit together, in the end or on the way.
		{"A bank F00 - 0 9223372036854775807\nA bank F00 - 1 1\n" + due + own, api.ErrOver}, {"A bank F00 - 0 -9223372036854775808\nA bank F00 - 1 -1", api.ErrOver},
		{bank + due + own + "B none F00 - 0 9223372036854775807\nB none F00 - 2 1\nB none F00 - 3 -1", api.ErrOver},
		{bank + due + own + "B none F00 - 0 9223372036854775807\nB none F00 - 2 -9223372036854775807", api.OK},
		// Facts by other flows count nothing, also such as do not fit together.
		{bank + due + own + "A bank F15 - 0 1\nA bank F20 - 0 1\nA bank F80 - 0 1\nA bank F98 - 0 1\nA bank F99 - 0 1\nA bank F50 - 0 1\nA bank - - 0 1\nA bank open - 0 1", api.OK},
		{bank + due + own + "A bank F99 - 0 9223372036854775807\nA bank F99 - 1 1\nA bank F50 - 0 9223372036854775807\nA bank F50 - 1 1", api.OK},
		{prior + bank + due + own, api.OK}, {prior, api.ErrFlow},
		{due + own + "A bank F15 - 0 5", api.ErrFlow}, {due + own + "A bank F99 - 0 5", api.ErrFlow}, {due + own + "A bank F50 - 0 5", api.ErrFlow}, {due + own + "A bank - - 0 5", api.ErrFlow}, {due + own + "A bank f00 - 0 5", api.ErrFlow},
	} {
		c := cubeOf(t, x.lines)
		checkCheck(t, w, cubeOf(t, prior), c, x.want)
		// Where prior's facts are from, and what else it has, counts nothing.
		checkCheck(t, w, cubeOf(t, "A bank F99 - 0 2\nA bank F99 - 4 3\nA due F99 B 3 7\nB cap F99 - 0 9\nA bank F00 - 0 1\nA bank F20 - 0 1\nA cap F50 - 0 1"), c, x.want)
		checkBring(t, w, cubeOf(t, prior), c, cubeOfFacts(t, slices.Concat(others(w, c), cubeOf(t, bank+due+own))), api.OK)
		checkBrought(t, w, cubeOf(t, prior), c)
	}
}

// TestCheckNone has priors that close with nothing.
func TestCheckNone(t *testing.T) {
	w := usualWorld(t)
	for _, prior := range []string{"", "A bank F00 - 0 5", "A bank F20 - 0 5", "A bank F50 - 0 5", "A bank F99 - 0 5\nA bank F99 - 1 -5"} {
		checkCheck(t, w, cubeOf(t, prior), nil, api.OK)
		checkCheck(t, w, cubeOf(t, prior), cubeOf(t, "A bank F20 - 0 5\nA bank F99 - 0 5\nA bank F50 - 0 5"), api.OK)
		checkCheck(t, w, cubeOf(t, prior), cubeOf(t, "A bank F00 - 0 5\nA bank F00 - 1 -5"), api.OK)
		checkCheck(t, w, cubeOf(t, prior), cubeOf(t, "A bank F00 - 0 5"), api.ErrFlow)
		checkBring(t, w, cubeOf(t, prior), cubeOf(t, usualCube), cubeOf(t, usualRest), api.OK)
	}
}

func TestBring(t *testing.T) {
	w := usualWorld(t)
	prior := cubeOf(t, "A bank F99 - 0 5\nA bank F99 - 2 1\nA due F99 B 1 7\nA bank F00 - 0 77")
	const opening = "A bank F00 - 0 6\nA due F00 B 0 7\n"
	const rest = "A bank F15 - 0 1\nA bank F20 - 1 2\nA bank F80 - 2 3\nA bank F98 - 3 4\nA bank F99 - 4 5\nA bank F50 - 0 6\nA bank - - 0 7\nC none F20 A -1 8\n- - F99 - 9 9\n"
	for _, x := range []string{
		// Openings of its own: the same places, others, each mark, and such as do not fit together.
		"A bank F00 - 0 9\n", "A cap F00 - 0 9\n", "C none F00 Z 0 9\n", "- - F00 - 0 9\n",
		"A bank F00 - 1 9\n", "A bank F00 - 2 9\n", "A bank F00 - 3 9\n", "A bank F00 - 4 9\n", "A bank F00 - -1 9\n", "A bank F00 - 5 9\n",
		"A bank F00 - 0 9\nA bank F00 - 1 9\nA due F00 B 2 9\nA due F00 - 0 9\n", "A bank F00 - 0 9\nA bank F00 - 1 -9\n", "A bank F00 - 0 -6\n",
		"A bank F00 - 0 9223372036854775807\nA bank F00 - 1 9223372036854775807\nA bank F00 - 2 9223372036854775807\n",
		"A bank F00 - 0 -9223372036854775808\nA bank F00 - 1 -9223372036854775808\n",
		// Those already brought, with more, with less, and none.
		opening, opening + "A bank F00 - 1 1\n", opening + "B bank F00 - 0 1\n", "A bank F00 - 0 6\n", "A due F00 B 0 7\n", "",
	} {
		checkBring(t, w, prior, cubeOf(t, x), cubeOf(t, opening), api.OK)
		checkBring(t, w, prior, cubeOf(t, x+rest), cubeOf(t, opening+rest), api.OK)
		checkBring(t, w, nil, cubeOf(t, x+rest), cubeOf(t, rest), api.OK)
		checkBrought(t, w, prior, cubeOf(t, x+rest))
	}
	// Facts that are no opening are as they were, each by itself, also such as would not fit together.
	for line := range strings.Lines(rest + "A bank F99 - 0 9223372036854775807\nA bank F20 - 0 -9223372036854775808\n") {
		checkBring(t, w, prior, cubeOf(t, line), cubeOf(t, opening+line), api.OK)
	}
	much := "A bank F99 - 0 9223372036854775807\nA bank F99 - 1 9223372036854775807\nA bank F20 - 0 -9223372036854775808\nA bank F20 - 1 -9223372036854775808\n"
	checkBring(t, w, prior, cubeOf(t, much), cubeOf(t, opening+much), api.OK)
	// A sum of prior's closing that does not fit.
	for _, lines := range overs {
		for _, c := range []string{"", opening, rest, opening + rest, much} {
			checkBring(t, w, cubeOf(t, lines), cubeOf(t, c), nil, api.ErrOver)
		}
	}
}

// TestFirst asks which error is told where more than one would hold.
func TestFirst(t *testing.T) {
	w := usualWorld(t)
	over := cubeOf(t, "A bank F00 - 0 9223372036854775807\nA bank F00 - 1 1")
	for _, lines := range overs {
		prior := cubeOf(t, lines)
		// Both do not fit: that is one error; of prior's and of one that differs it is prior's.
		checkCheck(t, w, prior, over, api.ErrOver)
		checkCheck(t, w, prior, nil, api.ErrOver)
		checkCheck(t, w, prior, cubeOf(t, "A bank F00 - 0 5"), api.ErrOver)
		checkCheck(t, w, prior, cubeOf(t, strings.ReplaceAll(lines, "F99", "F00")), api.ErrOver)
	}
	// c's error is told ahead of their not being the same; Bring asks nothing of what it leaves out.
	for _, prior := range []string{"", "A bank F99 - 0 5", usualPrior} {
		checkCheck(t, w, cubeOf(t, prior), over, api.ErrOver)
		want, _ := wantOpen(w, cubeOf(t, prior))
		checkBring(t, w, cubeOf(t, prior), over, want, api.OK)
	}
	// Too many and too great: a sum that does not fit counts ahead of too many of the same cube.
	many := closings(2001)
	tooMuch := append(closings(2000), factOf("Z z F99 - 0 9223372036854775807"), factOf("Z z F99 - 1 1"))
	checkCheck(t, w, many, over, api.ErrBig)
	checkCheck(t, w, tooMuch, openings(2001), api.ErrOver)
	checkCheck(t, w, cubeOf(t, overs[0]), openings(2001), api.ErrOver)
	checkCheck(t, w, nil, openings(2001), api.ErrBig)
	checkOpen(t, w, tooMuch, nil, api.ErrOver)
	checkBring(t, w, tooMuch, openings(2001), nil, api.ErrOver)
	checkBring(t, w, many, over, nil, api.ErrBig)
}

// closings answers n facts by the flow of closing, by rising keys; there may be more of them than Facts.
func closings(n int) fact.Cube {
	var l fact.Cube
	for i := range n {
		l = append(l, factOf("E"+strconv.Itoa(10000+i)+" bank F99 - 0 5"))
	}
	return l
}

// openings answers what opens behind closings.
func openings(n int) fact.Cube {
	l := closings(n)
	for i := range l {
		l[i].Key.Flow = "F00"
	}
	return l
}

// TestBig has as many facts as there may be, and one more.
func TestBig(t *testing.T) {
	w := usualWorld(t)
	checkOpen(t, w, closings(2000), openings(2000), api.OK)
	checkOpen(t, w, closings(2001), nil, api.ErrBig)
	checkCheck(t, w, closings(2000), openings(2000), api.OK)
	checkCheck(t, w, closings(2000), openings(1999), api.ErrFlow)
	checkCheck(t, w, closings(1999), openings(2000), api.ErrFlow)
	checkCheck(t, w, closings(2000), openings(2001), api.ErrBig)
	checkCheck(t, w, closings(2001), openings(2001), api.ErrBig)
	checkBring(t, w, closings(2000), nil, openings(2000), api.OK)
	checkBring(t, w, closings(2000), openings(2000), openings(2000), api.OK)
	checkBring(t, w, closings(2000), cubeOf(t, "A bank F20 - 0 5"), nil, api.ErrBig)
	checkBring(t, w, closings(2001), nil, nil, api.ErrBig)
	one := cubeOf(t, "A bank F20 - 0 5")
	checkBring(t, w, closings(1999), one, slices.Concat(one, openings(1999)), api.OK)
	checkBring(t, w, closings(1000), closings(1000), both(1000), api.OK)
	checkBring(t, w, closings(1001), closings(1000), nil, api.ErrBig)
	checkBring(t, w, closings(1000), closings(1001), nil, api.ErrBig)
	// Those that are one but for the mark make room.
	marked := closings(1999)
	again := marked[1998]
	again.Key.Mark = fact.Book
	marked = append(marked, again)
	want := openings(1999)
	want[1998].Amount = 10
	checkOpen(t, w, marked, want, api.OK)
	checkBring(t, w, marked, one, slices.Concat(one, want), api.OK)
}

// both answers n openings, each with its closing behind it.
func both(n int) fact.Cube {
	var l fact.Cube
	for i, f := range closings(n) {
		l = append(l, openings(n)[i], f)
	}
	return l
}

// small are amounts that fit together, great some that do not.
var small = []int64{1, -1, 2, -2, 3, 5, -5, 8}
var great = []int64{greatest, -greatest, least, greatest - 1, 1 << 62, -1 << 62, 1, -1}

// anyCube answers a cube of up to n facts of few names, also such as there are not.
func anyCube(t testing.TB, w world, r *rand.Rand, n int, from []int64) fact.Cube {
	t.Helper()
	pick := func(l ...string) string { return l[r.Intn(len(l))] }
	closing := w.codeOf("close")
	seen := map[fact.Key]int{}
	var l []fact.Fact
	for range r.Intn(n + 1) {
		k := fact.Key{
			Entity:  pick("A", "A", "B", "C", ""),
			Account: pick("bank", "bank", "due", "cap", "none"),
			Flow:    pick(w.opening, w.opening, closing, closing, closing, "F20", "F80", "F98", "F50", ""),
			Partner: pick("", "", "A", "B"),
			Mark:    r.Intn(6) - 1,
		}
		if seen[k]++; seen[k] == 1 {
			l = append(l, fact.Fact{Key: k, Amount: from[r.Intn(len(from))]})
		}
	}
	return cubeOfFacts(t, l)
}

// TestAny holds all calls against the chapter's words, for cubes of few names with all kinds of facts.
func TestAny(t *testing.T) {
	r := rand.New(rand.NewSource(1))
	worlds := append(otherWorlds(t), usualWorld(t))
	opens, checks, brings := map[api.Errno]int{}, map[api.Errno]int{}, map[api.Errno]int{}
	for i := range 6000 {
		w := worlds[i%len(worlds)]
		from, most := small, 1+i%23
		if i%3 == 0 {
			// Of many facts more are one but for their marks.
			from, most = great, 40
		}
		prior, c := anyCube(t, w, r, most, from), anyCube(t, w, r, most, from)
		if i%4 == 0 {
			c = reopened(t, w, r, prior, c)
		}
		checkAll(t, w, prior, c)
		_, e := Open(w.m, prior)
		opens[e]++
		checks[Check(w.m, prior, c)]++
		_, e = Bring(w.m, prior, c)
		brings[e]++
	}
	for _, e := range []api.Errno{api.OK, api.ErrOver} {
		if opens[e] < 100 || checks[e] < 100 || brings[e] < 100 {
			t.Errorf("the test's own: %d is told %d, %d and %d times", e, opens[e], checks[e], brings[e])
		}
	}
	if checks[api.ErrFlow] < 100 {
		t.Errorf("the test's own: Check tells ErrFlow %d times", checks[api.ErrFlow])
	}
}

// reopened answers c with the opening that prior asks for, in pieces and with
// any marks, or with one amount in it that is another.
func reopened(t testing.TB, w world, r *rand.Rand, prior, c fact.Cube) fact.Cube {
	t.Helper()
	opening, e := wantOpen(w, prior)
	if e != api.OK {
		return c
	}
	l := others(w, c)
	for _, f := range opening {
		// Pieces fit together, as each is nearer to 0 than all of it.
		piece := f.Amount / 3
		first := r.Intn(3)
		f.Key.Mark = first
		l = append(l, fact.Fact{Key: f.Key, Amount: piece})
		f.Key.Mark = first + 1 + r.Intn(2)
		l = append(l, fact.Fact{Key: f.Key, Amount: f.Amount - piece})
	}
	if len(l) > 0 && r.Intn(3) == 0 {
		l[r.Intn(len(l))].Amount /= 2
	}
	return cubeOfFacts(t, l)
}

// TestBrought asks P13.4 of year upon year.
func TestBrought(t *testing.T) {
	r := rand.New(rand.NewSource(2))
	worlds := append(otherWorlds(t), usualWorld(t))
	moved := 0
	for i := range 300 {
		w := worlds[i%len(worlds)]
		var prior fact.Cube
		for range 6 {
			c := anyCube(t, w, r, 12, small)
			b, e := Bring(w.m, prior, c)
			if e != api.OK {
				t.Fatalf("Bring of %s and %s: %d", told(prior), told(c), e)
			}
			checkBrought(t, w, prior, c)
			if Check(w.m, prior, c) != api.OK {
				moved++
			}
			// Each account opens with what it closed with, with each partner.
			for _, f := range slices.Concat(prior, b) {
				if was, is := of(prior, f.Key, w.codeOf("close")), of(b, f.Key, w.opening); was != is {
					t.Errorf("%s closed with %d, and opens with %d", told(f.Key), was, is)
				}
			}
			prior = b
		}
	}
	if moved < 500 {
		t.Errorf("the test's own: %d opened otherwise", moved)
	}
}

// of answers the amounts of c, whatever their marks, where k is, by this flow.
func of(c fact.Cube, k fact.Key, flow string) int64 {
	var sum int64
	for _, f := range c {
		if f.Key.Entity == k.Entity && f.Key.Account == k.Account && f.Key.Partner == k.Partner && f.Key.Flow == flow {
			sum += f.Amount
		}
	}
	return sum
}

// TestAnew changes what was answered, and asks again: nothing is kept, and
// nothing handed in, or answered to another, is a part of it.
func TestAnew(t *testing.T) {
	w := usualWorld(t)
	prior, c := cubeOf(t, usualPrior), cubeOf(t, usualCube)
	opening, brought := cubeOf(t, usualOpening), cubeOf(t, usualRest, usualOpening)
	a, _ := Open(w.m, prior)
	b, _ := Open(w.m, prior)
	spoil(a)
	checkCube(t, "Open, with another answer changed", b, api.OK, opening, api.OK)
	a, _ = Bring(w.m, prior, c)
	b, _ = Bring(w.m, prior, c)
	spoil(a)
	checkCube(t, "Bring, with another answer changed", b, api.OK, brought, api.OK)
	// Also where what is answered is what was handed in.
	a, _ = Bring(w.m, prior, b)
	spoil(a)
	a, _ = Bring(w.m, nil, cubeOf(t, usualRest))
	spoil(a)
	checkCube(t, "what was handed in", b, api.OK, brought, api.OK)
	// Other calls, and other master data, between: what is told stays.
	other := otherWorlds(t)[0]
	for range 2 {
		checkOpen(t, w, prior, opening, api.OK)
		checkBring(t, w, prior, c, brought, api.OK)
		checkOpen(t, w, cubeOf(t, overs[0]), nil, api.ErrOver)
		checkAll(t, other, prior, c)
		checkCheck(t, w, prior, brought, api.OK)
		checkCheck(t, w, prior, c, api.ErrFlow)
	}
	// One cube as both.
	whole := room(prior)
	if e := Check(w.m, whole, whole); e != api.ErrFlow || !slices.Equal(whole, prior) {
		t.Errorf("Check of a cube and itself: %d, and then it is %s", e, told(whole))
	}
	a, e := Bring(w.m, whole, whole)
	spoil(a)
	if e != api.OK || !slices.Equal(whole, prior) {
		t.Errorf("Bring of a cube and itself: %d, and then it is %s", e, told(whole))
	}
}

// TestNoMasters calls with master data that no text tells, and facts that are
// no cube: nothing is asked but that the calls end, change nothing, have
// nothing beside an error, and answer the same again.
func TestNoMasters(t *testing.T) {
	r := rand.New(rand.NewSource(4))
	some := []string{"", "A", "B", "bank", "F00", "F20", "F99", "F", "é", "\xff", " ", "-", strings.Repeat("x", 100)}
	anyName := func() string { return some[r.Intn(len(some))] }
	usual := usualWorld(t).m
	back := slices.Clone(usual.Flows)
	slices.Reverse(back)
	masters := []unit.Master{
		{}, usual, {Chart: usual.Chart}, {Flows: usual.Flows}, {Flows: back}, {Flows: slices.Concat(usual.Flows, usual.Flows)},
		{Flows: flow.List{{Code: "F99", Kind: api.Close}}}, {Flows: flow.List{{Code: "F00", Kind: api.Open}}}, {Flows: flow.List{{}}},
		{Flows: flow.List{{Code: "F00", Kind: api.Open}, {Code: "F00", Kind: api.Close}}},
	}
	for range 600 {
		var m unit.Master
		for range r.Intn(9) {
			m.Chart = append(m.Chart, chart.Account{Code: anyName(), Class: r.Intn(6) - 2, Mutual: r.Intn(2) == 0, Fixed: anyName()})
			m.Flows = append(m.Flows, flow.Flow{Code: anyName(), Kind: r.Intn(9) - 2})
		}
		masters = append(masters, m)
	}
	anyFacts := func() fact.Cube {
		var c fact.Cube
		for range r.Intn(40) {
			k := fact.Key{Entity: anyName(), Account: anyName(), Flow: anyName(), Partner: anyName(), Mark: r.Intn(9) - 2}
			c = append(c, fact.Fact{Key: k, Amount: []int64{0, 1, -1, 7, least, greatest}[r.Intn(6)]})
		}
		return c
	}
	for _, m := range masters {
		for range 3 {
			prior, c := anyFacts(), anyFacts()
			checkEnds(t, m, prior, c)
			checkEnds(t, m, slices.Concat(prior, prior), slices.Concat(c, c))
		}
		checkEnds(t, m, nil, nil)
	}
}

func checkEnds(t *testing.T, m unit.Master, prior, c fact.Cube) {
	t.Helper()
	unchanged(t, m, prior, c, func(prior, c fact.Cube) {
		d, e := Open(m, prior)
		if again, eAgain := Open(m, prior); !slices.Equal(d, again) || e != eAgain || e != api.OK && len(d) != 0 {
			t.Errorf("Open = %s, %d, and %s, %d", told(d), e, told(again), eAgain)
		}
		spoil(d)
		if e := Check(m, prior, c); e != Check(m, prior, c) {
			t.Errorf("Check = %d, and something else", e)
		}
		d, e = Bring(m, prior, c)
		if again, eAgain := Bring(m, prior, c); !slices.Equal(d, again) || e != eAgain || e != api.OK && len(d) != 0 {
			t.Errorf("Bring = %s, %d, and %s, %d", told(d), e, told(again), eAgain)
		}
		spoil(d)
	})
}

// FuzzAll holds all calls against the chapter's words, of two cubes whose
// facts are told by four bytes each, prior's by the first half.
func FuzzAll(f *testing.F) {
	for _, s := range []string{"", "\x00\x01\x00\x05", "\x00\x01\x00\x05\x00\x00\x00\x05", "\x00\x01\x01\x08\x00\x01\x02\x08\x00\x00\x00\x05\x05\x01\x03\x03", "\x12\x34\x56\x78\x9a\xbc\xde\xf0\x01\x02\x03\x04"} {
		f.Add([]byte(s))
	}
	worlds := append(otherWorlds(f), usualWorld(f))
	f.Fuzz(func(t *testing.T, b []byte) {
		w := worlds[len(b)%len(worlds)]
		half := len(b) / 8 * 4
		checkAll(t, w, fuzzCube(t, w, b[:half]), fuzzCube(t, w, b[half:]))
	})
}

// fuzzCube answers the cube of facts of four bytes each; of those of one key the first.
func fuzzCube(t testing.TB, w world, b []byte) fact.Cube {
	t.Helper()
	seen := map[fact.Key]int{}
	var l []fact.Fact
	for ; len(b) >= 4 && len(l) < 100; b = b[4:] {
		k := fact.Key{
			Entity:  []string{"A", "B", "", "C"}[b[0]%4],
			Account: []string{"bank", "due", "cap", "none"}[b[0]/4%4],
			Flow:    []string{w.opening, w.codeOf("close"), "F20", "F80", "F98", "F50", "F15", ""}[b[1]%8],
			Partner: []string{"", "A", "B", "C"}[b[1]/8%4],
			Mark:    int(b[2] % 6),
		}
		if seen[k]++; seen[k] == 1 {
			l = append(l, fact.Fact{Key: k, Amount: slices.Concat(small, great)[b[3]%16]})
		}
	}
	return cubeOfFacts(t, l)
}

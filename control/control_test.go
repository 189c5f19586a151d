package control

import (
	"fmt"
	"math"
	"math/big"
	"math/rand"
	"slices"
	"sort"
	"strconv"
	"strings"
	"testing"

	"comptroller/api"
	"comptroller/chart"
	"comptroller/fact"
	"comptroller/flow"
	"comptroller/unit"
)

const (
	least    = math.MinInt64
	greatest = math.MaxInt64
)

// masterText is the text of ordinary master data; the flows stand in no order.
const masterText = `group USD
account bank asset cash
account due asset mutual
account owe liability mutual
account loan liability
account cap equity
account dif asset
account plant asset fixed mach
account lost asset worn mach
flow F99 close
flow F00 open
flow F20 move
flow F15 move
flow F80 fx
flow F98 scope
flow F02 move
entity B EUR
entity A USD
reserve cap
minor cap
differ dif
stake dif
`

// stillText is masterText without a flow of the kind Move.
var stillText = without(masterText, " move")

// without answers s without its lines that have a part.
func without(s, part string) string {
	kept := ""
	for line := range strings.Lines(s) {
		if !strings.Contains(line, part) {
			kept += line
		}
	}
	return kept
}

// world is master data, and what the test itself reads in their text: the
// kinds of flows and the classes of accounts by their words.
type world struct {
	m              unit.Master
	kinds, classes map[string]string
}

func worldOf(t testing.TB, s string) world {
	t.Helper()
	m, e := unit.Parse(s)
	if e != api.OK {
		t.Fatalf("master data: %d", e)
	}
	w := world{m, map[string]string{}, map[string]string{}}
	for line := range strings.Lines(s) {
		words := strings.Fields(line)
		switch words[0] {
		case "flow":
			w.kinds[words[1]] = words[2]
		case "account":
			w.classes[words[1]] = words[2]
		}
	}
	return w
}

func usualWorld(t testing.TB) world {
	t.Helper()
	return worldOf(t, masterText)
}

// counts tells whether f counts in w.
func (w world) counts(f fact.Fact) bool {
	return w.kinds[f.Key.Flow] != "" && w.classes[f.Key.Account] != ""
}

// kindWords are the kinds' words, by their numbers.
var kindWords = map[int]string{0: "open", 1: "move", 2: "fx", 3: "scope", 4: "close"}

// factOf answers the fact of a line: Entity, Account, Flow, Partner, Mark and Amount; "-" is "".
func factOf(line string) fact.Fact {
	words := strings.Fields(line)
	for i, word := range words {
		if word == "-" {
			words[i] = ""
		}
	}
	mark, err := strconv.Atoi(words[4])
	if err != nil {
		panic(line)
	}
	amount, err := strconv.ParseInt(words[5], 10, 64)
	if err != nil {
		panic(line)
	}
	return fact.Fact{Key: fact.Key{Entity: words[0], Account: words[1], Flow: words[2], Partner: words[3], Mark: mark}, Amount: amount}
}

// cubeOf answers the cube of lines, which may stand in any order, and be many in one text.
func cubeOf(t testing.TB, lines ...string) fact.Cube {
	t.Helper()
	var l []fact.Fact
	for line := range strings.Lines(strings.Join(lines, "\n")) {
		if strings.TrimSpace(line) != "" {
			l = append(l, factOf(line))
		}
	}
	return cubeOfFacts(t, l)
}

func cubeOfFacts(t testing.TB, l []fact.Fact) fact.Cube {
	t.Helper()
	c, e := fact.Of(l)
	if e != api.OK || !fact.Right(c) {
		t.Fatalf("the test's own: no cube: %d of %s", e, told(l))
	}
	return c
}

// usualCube is an ordinary cube, without gaps, and in balance.
const usualCube = `
A bank F00 - 0 5
A bank F20 - 0 2
A bank F20 - 1 1
A bank F98 - 0 -4
A bank F99 - 0 4
A due F00 B 0 7
A due F99 B 0 7
A cap F00 - 0 10
A cap F15 - 0 -1
A cap F99 - 0 9
A loan F00 - 0 2
A loan F99 - 0 2
B owe F20 A 0 3
B owe F99 A 0 3
B bank F20 - 0 3
B bank F80 - 2 1
B bank F99 - 0 4
B cap F80 - 2 1
B cap F99 - 0 1
`

// told answers what it is given so that each byte can be seen; only the beginning, if it is long.
func told(what any) string {
	s := fmt.Sprintf("%q", fmt.Sprintf("%+v", what))
	return s[:min(len(s), 800)]
}

// same tells whether both are the same master data.
func same(a, b unit.Master) bool {
	return slices.Equal(a.Chart, b.Chart) && slices.Equal(a.Flows, b.Flows) && slices.Equal(a.Entities, b.Entities) && slices.Equal(a.Lines, b.Lines) &&
		a.Currency == b.Currency && a.Reserve == b.Reserve && a.Differ == b.Differ && a.Minor == b.Minor && a.Stake == b.Stake
}

// copied answers master data that share no list with m.
func copied(m unit.Master) unit.Master {
	m.Chart, m.Flows = slices.Clone(m.Chart), slices.Clone(m.Flows)
	m.Entities, m.Lines = slices.Clone(m.Entities), slices.Clone(m.Lines)
	return m
}

// signed is an amount, and whether it is added.
type signed struct {
	amount int64
	plus   bool
}

// wantTotal answers what comes of amounts, by numbers of any size.
func wantTotal(l []signed) (int64, api.Errno) {
	sum := new(big.Int)
	for _, x := range l {
		a := big.NewInt(x.amount)
		if !x.plus {
			a.Neg(a)
		}
		if !sum.Add(sum, a).IsInt64() {
			return 0, api.ErrOver
		}
	}
	return sum.Int64(), api.OK
}

// wantGap answers what P12.1 asks of Gap.
func wantGap(w world, c fact.Cube, entity, account, partner string) (int64, api.Errno) {
	var l []signed
	for _, f := range c {
		if f.Key.Entity == entity && f.Key.Account == account && f.Key.Partner == partner && w.counts(f) {
			l = append(l, signed{f.Amount, w.kinds[f.Key.Flow] == "close"})
		}
	}
	return wantTotal(l)
}

// wantWeigh answers what P12.2 asks of Weigh.
func wantWeigh(w world, c fact.Cube, entity string, kind int) (int64, api.Errno) {
	word, is := kindWords[kind]
	var l []signed
	for _, f := range c {
		if (entity == "" || f.Key.Entity == entity) && w.counts(f) && is && w.kinds[f.Key.Flow] == word {
			l = append(l, signed{f.Amount, w.classes[f.Key.Account] == "asset"})
		}
	}
	return wantTotal(l)
}

// names answers what those facts of c that count have by name, each once, rising.
func names(w world, c fact.Cube, name func(k fact.Key) string) []string {
	var l []string
	for _, f := range c {
		if w.counts(f) && !slices.Contains(l, name(f.Key)) {
			l = append(l, name(f.Key))
		}
	}
	sort.Strings(l)
	return l
}

func entityOf(k fact.Key) string  { return k.Entity }
func accountOf(k fact.Key) string { return k.Account }
func partnerOf(k fact.Key) string { return k.Partner }

// wantCheck answers what P12.3 asks of Check: all accounts and partners beside
// each other, since those that the cube has not have no gap.
func wantCheck(w world, c fact.Cube) api.Errno {
	for _, entity := range names(w, c, entityOf) {
		for _, account := range names(w, c, accountOf) {
			for _, partner := range names(w, c, partnerOf) {
				if n, e := wantGap(w, c, entity, account, partner); e != api.OK {
					return e
				} else if n != 0 {
					return api.ErrFlow
				}
			}
		}
		for _, kind := range []int{0, 4} {
			if n, e := wantWeigh(w, c, entity, kind); e != api.OK {
				return e
			} else if n != 0 {
				return api.ErrBalance
			}
		}
	}
	return api.OK
}

// wantFix answers what P12.4 asks of Fix.
func wantFix(w world, c fact.Cube, limit int64) (fact.Cube, api.Errno) {
	if limit < 0 {
		return nil, api.ErrArg
	}
	first := ""
	for code, kind := range w.kinds {
		if kind == "move" && (first == "" || code < first) {
			first = code
		}
	}
	all := slices.Clone(c)
	for _, entity := range names(w, c, entityOf) {
		for _, account := range names(w, c, accountOf) {
			for _, partner := range names(w, c, partnerOf) {
				n, e := wantGap(w, c, entity, account, partner)
				if e != api.OK {
					return nil, e
				}
				size := new(big.Int).Abs(big.NewInt(n))
				if n != 0 && (first == "" || size.Cmp(big.NewInt(limit)) > 0) {
					return nil, api.ErrFlow
				}
				all = append(all, fact.Fact{Key: fact.Key{Entity: entity, Account: account, Flow: first, Partner: partner, Mark: 1}, Amount: n})
			}
		}
	}
	return wantCube(all)
}

// wantCube answers the cube of facts, by numbers of any size.
func wantCube(facts []fact.Fact) (fact.Cube, api.Errno) {
	sums := map[fact.Key]*big.Int{}
	for _, f := range facts {
		if sums[f.Key] == nil {
			sums[f.Key] = new(big.Int)
		}
		if !sums[f.Key].Add(sums[f.Key], big.NewInt(f.Amount)).IsInt64() {
			return nil, api.ErrOver
		}
	}
	var c fact.Cube
	for k, sum := range sums {
		if sum.Sign() != 0 {
			c = append(c, fact.Fact{Key: k, Amount: sum.Int64()})
		}
	}
	if len(c) > 2000 {
		return nil, api.ErrBig
	}
	sort.Slice(c, func(i, j int) bool { return fact.Cmp(c[i].Key, c[j].Key) < 0 })
	return c, api.OK
}

// unchanged calls, and tells whether what is handed in is as it was.
func unchanged(t *testing.T, m unit.Master, c fact.Cube, call func()) {
	t.Helper()
	masterBefore, cubeBefore := copied(m), slices.Clone(c)
	call()
	if !same(m, masterBefore) || !slices.Equal(c, cubeBefore) {
		t.Errorf("%s or %s was changed", told(masterBefore), told(cubeBefore))
	}
}

func checkGap(t *testing.T, w world, c fact.Cube, entity, account, partner string, want int64, wantE api.Errno) {
	t.Helper()
	unchanged(t, w.m, c, func() {
		if n, e := Gap(w.m, c, entity, account, partner); n != want || e != wantE {
			t.Errorf("Gap of %q, %q, %q = %d, %d; want %d, %d; of %s", entity, account, partner, n, e, want, wantE, told(c))
		}
	})
	if n, e := wantGap(w, c, entity, account, partner); n != want || e != wantE {
		t.Errorf("the test's own: Gap of %q, %q, %q is %d, %d; of %s", entity, account, partner, n, e, told(c))
	}
}

func checkWeigh(t *testing.T, w world, c fact.Cube, entity string, kind int, want int64, wantE api.Errno) {
	t.Helper()
	unchanged(t, w.m, c, func() {
		if n, e := Weigh(w.m, c, entity, kind); n != want || e != wantE {
			t.Errorf("Weigh of %q, %d = %d, %d; want %d, %d; of %s", entity, kind, n, e, want, wantE, told(c))
		}
	})
	if n, e := wantWeigh(w, c, entity, kind); n != want || e != wantE {
		t.Errorf("the test's own: Weigh of %q, %d is %d, %d; of %s", entity, kind, n, e, told(c))
	}
}

func checkCheck(t *testing.T, w world, c fact.Cube, want api.Errno) {
	t.Helper()
	unchanged(t, w.m, c, func() {
		if e := Check(w.m, c); e != want {
			t.Errorf("Check = %d; want %d; of %s", e, want, told(c))
		}
	})
	if e := wantCheck(w, c); e != want {
		t.Errorf("the test's own: Check is %d; of %s", e, told(c))
	}
}

func checkFix(t *testing.T, w world, c fact.Cube, limit int64, want fact.Cube, wantE api.Errno) {
	t.Helper()
	unchanged(t, w.m, c, func() {
		d, e := Fix(w.m, c, limit)
		if !slices.Equal(d, want) || e != wantE {
			t.Errorf("Fix by %d = %s, %d; want %s, %d; of %s", limit, told(d), e, told(want), wantE, told(c))
		}
		if e == api.OK && !fact.Right(d) {
			t.Errorf("Fix by %d = %s, which is no cube", limit, told(d))
		}
		// What is answered is the caller's to change.
		for i := range d {
			d[i] = fact.Fact{Amount: 77}
		}
	})
	if d, e := wantFix(w, c, limit); !slices.Equal(d, want) || e != wantE {
		t.Errorf("the test's own: Fix by %d is %s, %d; of %s", limit, told(d), e, told(c))
	}
}

// checkErrors asks Fix for an error, and for nothing beside.
func checkErrors(t *testing.T, w world, c fact.Cube, wantE api.Errno, limits ...int64) {
	t.Helper()
	for _, limit := range limits {
		checkFix(t, w, c, limit, nil, wantE)
	}
}

// checkAll holds all four calls against the chapter's words.
func checkAll(t *testing.T, w world, c fact.Cube) {
	t.Helper()
	for _, entity := range []string{"", "A", "B", "C"} {
		for _, account := range []string{"bank", "due", "owe", "cap", "loan", "none", ""} {
			for _, partner := range []string{"", "A", "B", "C"} {
				n, e := wantGap(w, c, entity, account, partner)
				checkGap(t, w, c, entity, account, partner, n, e)
			}
		}
		for kind := -1; kind <= 5; kind++ {
			n, e := wantWeigh(w, c, entity, kind)
			checkWeigh(t, w, c, entity, kind, n, e)
		}
	}
	checkCheck(t, w, c, wantCheck(w, c))
	for _, limit := range []int64{least, -1, 0, 1, 2, 3, 5, 8, greatest - 1, greatest} {
		d, e := wantFix(w, c, limit)
		checkFix(t, w, c, limit, d, e)
	}
}

func TestEmpty(t *testing.T) {
	for _, text := range []string{masterText, stillText} {
		w := worldOf(t, text)
		for _, c := range []fact.Cube{nil, {}} {
			checkAll(t, w, c)
			checkGap(t, w, c, "A", "bank", "", 0, api.OK)
			checkWeigh(t, w, c, "A", api.Open, 0, api.OK)
			checkWeigh(t, w, c, "", api.Close, 0, api.OK)
			checkCheck(t, w, c, api.OK)
			checkFix(t, w, c, 0, nil, api.OK)
			checkErrors(t, w, c, api.ErrArg, -1, least)
		}
	}
}

func TestUsual(t *testing.T) {
	w := usualWorld(t)
	c := cubeOf(t, usualCube)
	checkAll(t, w, c)
	for _, f := range c {
		checkGap(t, w, c, f.Key.Entity, f.Key.Account, f.Key.Partner, 0, api.OK)
	}
	checkWeigh(t, w, c, "A", api.Open, 0, api.OK)
	checkWeigh(t, w, c, "A", api.Move, 4, api.OK)
	checkWeigh(t, w, c, "A", api.Scope, -4, api.OK)
	checkWeigh(t, w, c, "B", api.Move, 0, api.OK)
	checkWeigh(t, w, c, "B", api.Fx, 0, api.OK)
	checkWeigh(t, w, c, "", api.Close, 0, api.OK)
	checkCheck(t, w, c, api.OK)
	for _, limit := range []int64{0, 1, greatest} {
		checkFix(t, w, c, limit, c, api.OK)
	}
}

func TestGap(t *testing.T) {
	w := usualWorld(t)
	for _, x := range []struct {
		lines string
		want  int64
	}{
		// The chapter's example.
		{"A bank F00 - 0 5\nA bank F20 - 0 2\nA bank F99 - 0 9", 2},
		// A flow of each kind alone, with either sign.
		{"A bank F00 - 0 5", -5}, {"A bank F00 - 0 -5", 5},
		{"A bank F02 - 0 5", -5}, {"A bank F15 - 0 5", -5}, {"A bank F20 - 0 -5", 5},
		{"A bank F80 - 0 5", -5}, {"A bank F80 - 0 -5", 5},
		{"A bank F98 - 0 5", -5}, {"A bank F98 - 0 -5", 5},
		{"A bank F99 - 0 5", 5}, {"A bank F99 - 0 -5", -5},
		// Each mark alone, and all of them.
		{"A bank F20 - 1 5", -5}, {"A bank F20 - 2 5", -5}, {"A bank F20 - 3 5", -5}, {"A bank F20 - 4 5", -5},
		{"A bank F99 - 1 5", 5}, {"A bank F99 - 2 5", 5}, {"A bank F99 - 3 5", 5}, {"A bank F99 - 4 5", 5},
		{"A bank F20 - -1 5", -5}, {"A bank F99 - 9 5", 5},
		{"A bank F00 - 0 1\nA bank F00 - 1 2\nA bank F00 - 2 4\nA bank F00 - 3 8\nA bank F00 - 4 16", -31},
		{"A bank F99 - 0 1\nA bank F99 - 1 2\nA bank F99 - 2 4\nA bank F99 - 3 8\nA bank F99 - 4 16", 31},
		// All flows.
		{"A bank F00 - 0 1\nA bank F02 - 0 2\nA bank F15 - 0 4\nA bank F20 - 0 8\nA bank F80 - 0 16\nA bank F98 - 0 32\nA bank F99 - 0 64", 1},
		{"A bank F00 - 0 1\nA bank F02 - 0 2\nA bank F15 - 0 4\nA bank F20 - 0 8\nA bank F80 - 0 16\nA bank F98 - 0 32\nA bank F99 - 0 63", 0},
		{"A bank F00 - 0 1\nA bank F02 - 0 2\nA bank F15 - 0 4\nA bank F20 - 0 8\nA bank F80 - 0 16\nA bank F98 - 0 32\nA bank F99 - 0 60", -3},
		{"A bank F00 - 0 5\nA bank F20 - 0 -5", 0},
		// What stands elsewhere is another's.
		{"A bank F00 - 0 5\nB bank F99 - 0 7", -5},
		{"A bank F00 - 0 5\n- bank F99 - 0 7", -5},
		{"A bank F00 - 0 5\nAA bank F99 - 0 7\na bank F99 - 0 9", -5},
		{"A bank F00 - 0 5\nA cap F99 - 0 7\nA due F99 - 0 9", -5},
		{"A bank F00 - 0 5\nA bank F99 B 0 7\nA bank F99 A 0 9", -5},
		{"B bank F99 - 0 7\nA cap F99 - 0 7\nA bank F99 B 0 7", 0},
		// Flows that there are not count nothing, whatever their names.
		{"A bank F50 - 0 5", 0}, {"A bank - - 0 5", 0}, {"A bank f00 - 0 5", 0}, {"A bank F - 0 5", 0}, {"A bank F999 - 0 5", 0}, {"A bank close - 0 5", 0}, {"A bank A - 0 5", 0},
		{"A bank F00 - 0 5\nA bank F50 - 0 7\nA bank F99 - 0 9\nA bank Z - 1 11", 4},
		{"A bank F - 0 9223372036854775807\nA bank F00 - 0 -9223372036854775807\nA bank F50 - 0 -9223372036854775808", greatest},
		// Amounts at both ends.
		{"A bank F99 - 0 9223372036854775807", greatest}, {"A bank F99 - 0 -9223372036854775808", least},
		{"A bank F00 - 0 9223372036854775807", least + 1}, {"A bank F00 - 0 -9223372036854775807", greatest},
		{"A bank F00 - 0 1\nA bank F20 - 0 9223372036854775807", least},
		{"A bank F00 - 0 1\nA bank F20 - 0 -9223372036854775808", greatest},
		{"A bank F00 - 0 9223372036854775807\nA bank F99 - 0 9223372036854775807", 0},
		{"A bank F00 - 0 9223372036854775807\nA bank F20 - 0 -9223372036854775808\nA bank F99 - 0 -1", 0},
	} {
		checkGap(t, w, cubeOf(t, x.lines), "A", "bank", "", x.want, api.OK)
	}
}

// TestGapOver has sums that do not fit, in the end or on the way.
func TestGapOver(t *testing.T) {
	w := usualWorld(t)
	for _, lines := range []string{
		"A bank F00 - 0 -9223372036854775808",
		"A bank F98 - 2 -9223372036854775808",
		"A bank F00 - 0 9223372036854775807\nA bank F20 - 0 2",
		"A bank F00 - 0 9223372036854775807\nA bank F99 - 0 -2",
		"A bank F99 - 0 9223372036854775807\nA bank F99 - 1 1",
		"A bank F99 - 0 -9223372036854775808\nA bank F99 - 1 -1",
		// The whole would fit.
		"A bank F00 - 0 9223372036854775807\nA bank F20 - 0 2\nA bank F99 - 0 2",
		"A bank F00 - 0 -9223372036854775808\nA bank F20 - 0 1",
		"A bank F00 - 0 -9223372036854775808\nA bank F99 - 0 -9223372036854775808",
		"A bank F99 - 0 9223372036854775807\nA bank F99 - 1 1\nA bank F99 - 2 -1",
		"A bank F00 - 0 9223372036854775807\nA bank F20 - 0 9223372036854775807\nA bank F80 - 0 -9223372036854775807\nA bank F98 - 0 -9223372036854775807",
	} {
		checkGap(t, w, cubeOf(t, lines), "A", "bank", "", 0, api.ErrOver)
		// Of others it is none.
		checkGap(t, w, cubeOf(t, lines, "B bank F20 - 0 5"), "B", "bank", "", -5, api.OK)
	}
	// The order is that of the cube: by flows, whatever their kinds, then by marks.
	checkGap(t, w, cubeOf(t, "A bank F00 - 0 -2\nA bank F20 - 0 2\nA bank F99 - 0 9223372036854775807"), "A", "bank", "", greatest, api.OK)
	checkGap(t, w, cubeOf(t, "A bank F00 - 0 -2\nA bank F99 - 0 9223372036854775807"), "A", "bank", "", 0, api.ErrOver)
	early := worldOf(t, strings.Replace(masterText, "flow F99 close", "flow A00 close", 1))
	checkGap(t, early, cubeOf(t, "A bank F00 - 0 -2\nA bank F20 - 0 2\nA bank A00 - 0 9223372036854775807"), "A", "bank", "", 0, api.ErrOver)
	checkGap(t, early, cubeOf(t, "A bank F00 - 0 2\nA bank F20 - 0 -2\nA bank A00 - 0 9223372036854775807"), "A", "bank", "", greatest, api.OK)
}

// TestGapPlaces asks for places that the cube has, and has not.
func TestGapPlaces(t *testing.T) {
	w := usualWorld(t)
	c := cubeOf(t, `
		A bank F00 - 0 1
		A due F00 B 0 2
		A due F00 C 0 4
		A due F99 B 0 32
		A due F99 C 1 64
		A due F20 - 0 8
		B due F00 B 0 128
		B due F00 A 0 256
		- bank F00 - 0 512
		- due F00 B 0 1024
		C none F00 - 0 2048
		C none F20 B 0 4096
	`)
	for _, x := range []struct {
		entity, account, partner string
		want                     int64
	}{
		{"A", "bank", "", -1}, {"A", "due", "B", 30}, {"A", "due", "C", 60}, {"A", "due", "", -8},
		{"B", "due", "B", -128}, {"B", "due", "A", -256},
		// An Entity that is "" is one as others are, not all of them.
		{"", "bank", "", -512}, {"", "due", "B", -1024}, {"", "due", "", 0}, {"", "cap", "", 0},
		// None of the cube's.
		{"C", "bank", "", 0}, {"D", "due", "B", 0}, {"a", "bank", "", 0}, {"AA", "bank", "", 0},
		{"A", "owe", "B", 0}, {"A", "cap", "", 0}, {"A", "", "", 0}, {"A", "ban", "", 0},
		{"A", "due", "A", 0}, {"A", "due", "D", 0}, {"A", "bank", "B", 0}, {"A", "due", "-", 0},
		{"B", "bank", "", 0}, {"", "", "", 0},
		// Accounts that there are not.
		{"C", "none", "", 0}, {"C", "none", "B", 0},
	} {
		checkGap(t, w, c, x.entity, x.account, x.partner, x.want, api.OK)
	}
	checkAll(t, w, c)
}

// TestGapClasses asks for gaps of accounts of each class: that counts nothing.
func TestGapClasses(t *testing.T) {
	w := usualWorld(t)
	for account := range w.classes {
		lines := fmt.Sprintf("A %s F00 - 0 5\nA %s F20 - 0 2\nA %s F99 - 0 9", account, account, account)
		checkGap(t, w, cubeOf(t, lines), "A", account, "", 2, api.OK)
		checkGap(t, w, cubeOf(t, strings.ReplaceAll(lines, " - ", " B ")), "A", account, "B", 2, api.OK)
	}
	for _, account := range []string{"none", "ban", "bankk", "Bank", "-", "F00", "A", "asset"} {
		lines := fmt.Sprintf("A %s F00 - 0 5\nA %s F99 - 0 9", account, account)
		checkGap(t, w, cubeOf(t, lines), "A", strings.Trim(account, "-"), "", 0, api.OK)
	}
}

func TestWeigh(t *testing.T) {
	w := usualWorld(t)
	flowsOf := map[int][]string{api.Open: {"F00"}, api.Move: {"F02", "F15", "F20"}, api.Fx: {"F80"}, api.Scope: {"F98"}, api.Close: {"F99"}}
	for kind, flows := range flowsOf {
		for _, flow := range flows {
			// Each account alone: assets are added, the others taken away.
			for account, class := range w.classes {
				for _, amount := range []int64{5, -5, greatest, -greatest} {
					want := amount
					if class != "asset" {
						want = -amount
					}
					for _, rest := range []string{"- 0", "B 0", "- 1", "- 2", "- 3", "- 4", "A -7", "C 99"} {
						c := cubeOf(t, fmt.Sprintf("A %s %s %s %d", account, flow, rest, amount))
						for other := -1; other <= 5; other++ {
							if other == kind {
								checkWeigh(t, w, c, "A", other, want, api.OK)
								checkWeigh(t, w, c, "", other, want, api.OK)
							} else {
								checkWeigh(t, w, c, "A", other, 0, api.OK)
								checkWeigh(t, w, c, "", other, 0, api.OK)
							}
							checkWeigh(t, w, c, "B", other, 0, api.OK)
						}
					}
				}
			}
		}
	}
}

// TestWeighWho asks for entities that the cube has, for all, and for others.
func TestWeighWho(t *testing.T) {
	w := usualWorld(t)
	c := cubeOf(t, `
		A bank F00 - 0 1
		A cap F00 - 0 2
		A due F00 B 1 4
		A owe F00 B 0 8
		B bank F00 - 0 16
		B loan F00 - 4 32
		- bank F00 - 0 64
		- cap F00 A 0 128
		C plant F00 - 0 256
		A bank F20 - 0 512
		B cap F15 - 0 1024
		B lost F02 - 0 2048
		C none F00 - 0 4096
		C bank F50 - 0 8192
		A none F20 - 0 16384
		D none F00 - 0 1
		E bank F51 - 0 1
	`)
	for _, x := range []struct {
		entity string
		kind   int
		want   int64
	}{
		{"A", api.Open, 1 - 2 + 4 - 8}, {"B", api.Open, 16 - 32}, {"C", api.Open, 256},
		{"", api.Open, 1 - 2 + 4 - 8 + 16 - 32 + 64 - 128 + 256},
		{"A", api.Move, 512}, {"B", api.Move, -1024 + 2048}, {"C", api.Move, 0}, {"", api.Move, 512 - 1024 + 2048},
		{"A", api.Close, 0}, {"", api.Close, 0}, {"", api.Fx, 0}, {"", api.Scope, 0},
		// Nobody of the cube, or nobody who has what counts.
		{"D", api.Open, 0}, {"E", api.Open, 0}, {"F", api.Open, 0}, {"a", api.Open, 0}, {"AA", api.Open, 0}, {"-", api.Open, 0}, {"bank", api.Open, 0},
		// Kinds that no flow has.
		{"A", -1, 0}, {"", -1, 0}, {"A", 5, 0}, {"", 5, 0}, {"", 99, 0}, {"", math.MinInt, 0}, {"A", math.MaxInt, 0},
	} {
		checkWeigh(t, w, c, x.entity, x.kind, x.want, api.OK)
	}
	checkAll(t, w, c)
	still := worldOf(t, stillText)
	for _, entity := range []string{"", "A", "B", "C"} {
		checkWeigh(t, still, c, entity, api.Move, 0, api.OK)
	}
}

// TestWeighOver has sums that do not fit, in the end or on the way.
func TestWeighOver(t *testing.T) {
	w := usualWorld(t)
	for _, lines := range []string{
		"A cap F00 - 0 -9223372036854775808",
		"A owe F00 B 2 -9223372036854775808",
		"A bank F00 - 0 9223372036854775807\nA dif F00 - 0 1",
		"A bank F00 - 0 -9223372036854775808\nA cap F00 - 0 1",
		"A bank F00 - 0 9223372036854775807\nA cap F00 - 0 -1",
		// The whole would fit.
		"A bank F00 - 0 9223372036854775807\nA dif F00 - 0 1\nA plant F00 - 0 -1",
		"A bank F00 - 0 9223372036854775807\nA dif F00 - 0 1\nA owe F00 - 0 1",
		"A cap F00 - 0 -9223372036854775808\nA dif F00 - 0 -9223372036854775808",
		"A bank F00 - 0 9223372036854775807\nA bank F00 - 1 1\nA bank F00 - 2 -1",
	} {
		c := cubeOf(t, lines, "B bank F99 - 0 5")
		checkWeigh(t, w, c, "A", api.Open, 0, api.ErrOver)
		checkWeigh(t, w, c, "", api.Open, 0, api.ErrOver)
		checkWeigh(t, w, c, "B", api.Open, 0, api.OK)
		checkWeigh(t, w, c, "A", api.Close, 0, api.OK)
		checkWeigh(t, w, c, "", api.Close, 5, api.OK)
	}
	for lines, want := range map[string]int64{
		"A bank F00 - 0 9223372036854775807":                                                    greatest,
		"A bank F00 - 0 -9223372036854775808":                                                   least,
		"A bank F00 - 0 -1\nA cap F00 - 0 9223372036854775807":                                  least,
		"A bank F00 - 0 -1\nA cap F00 - 0 -9223372036854775808":                                 greatest,
		"A bank F00 - 0 9223372036854775807\nA cap F00 - 0 9223372036854775807":                 0,
		"A bank F00 - 0 9223372036854775807\nA cap F00 - 0 1\nA dif F00 - 0 1":                  greatest,
		"A bank F00 - 0 -9223372036854775808\nA dif F00 - 0 9223372036854775807":                -1,
		"A bank F00 - 0 9223372036854775807\nA none F00 - 0 1\nA bank F01 - 0 1":                greatest,
		"A bank F00 - 0 9223372036854775807\nA cap F99 - 0 -9223372036854775808\nA dif Z - 0 1": greatest,
	} {
		checkWeigh(t, w, cubeOf(t, lines), "A", api.Open, want, api.OK)
		checkWeigh(t, w, cubeOf(t, lines), "", api.Open, want, api.OK)
	}
	// Each by itself fits, all together do not; the order is that of the cube.
	c := cubeOf(t, "A bank F00 - 0 9223372036854775807\nB bank F00 - 0 1\nC cap F00 - 0 1")
	checkWeigh(t, w, c, "A", api.Open, greatest, api.OK)
	checkWeigh(t, w, c, "B", api.Open, 1, api.OK)
	checkWeigh(t, w, c, "", api.Open, 0, api.ErrOver)
	c = cubeOf(t, "A bank F00 - 0 9223372036854775807\nB cap F00 - 0 1\nC bank F00 - 0 1")
	checkWeigh(t, w, c, "", api.Open, greatest, api.OK)
}

func TestCheck(t *testing.T) {
	w := usualWorld(t)
	const (
		level    = " bank F00 - 0 5\n%[1]s cap F00 - 0 5\n%[1]s bank F99 - 0 5\n%[1]s cap F99 - 0 5\n"
		gapBank  = " bank F00 - 0 5\n%[1]s cap F00 - 0 5\n%[1]s bank F99 - 0 6\n%[1]s cap F99 - 0 6\n%[1]s cap F20 - 0 1\n"
		opensOff = " bank F00 - 0 5\n%[1]s bank F20 - 0 -5\n"
		closeOff = " bank F20 - 0 5\n%[1]s bank F99 - 0 5\n"
		allOff   = " bank F00 - 0 5\n%[1]s bank F99 - 0 5\n"
		gapAndOf = " bank F99 - 0 5\n"
		over     = " bank F00 - 0 -9223372036854775808\n"
		openOver = " bank F00 - 0 9223372036854775807\n%[1]s bank F20 - 0 -9223372036854775807\n%[1]s plant F00 - 0 1\n%[1]s plant F20 - 0 -1\n"
		shutOver = " bank F20 - 0 9223372036854775807\n%[1]s bank F99 - 0 9223372036854775807\n%[1]s plant F20 - 0 1\n%[1]s plant F99 - 0 1\n"
	)
	wants := map[string]api.Errno{
		level: api.OK, gapBank: api.ErrFlow, opensOff: api.ErrBalance, closeOff: api.ErrBalance, allOff: api.ErrBalance,
		gapAndOf: api.ErrFlow, over: api.ErrOver, openOver: api.ErrOver, shutOver: api.ErrOver,
	}
	of := func(entity, lines string) string { return fmt.Sprintf("%[1]s"+lines, entity) }
	for first, wantFirst := range wants {
		checkCheck(t, w, cubeOf(t, of("A", first)), wantFirst)
		checkCheck(t, w, cubeOf(t, of("Other", first)), wantFirst)
		// Of two, the first one's counts, whatever it is.
		for second, wantSecond := range wants {
			want := wantFirst
			if want == api.OK {
				want = wantSecond
			}
			checkCheck(t, w, cubeOf(t, of("A", first), of("B", second)), want)
			checkCheck(t, w, cubeOf(t, of("A", first), of("AA", second)), want)
			checkCheck(t, w, cubeOf(t, of("Z", first), of("a", second)), want)
			checkCheck(t, w, cubeOf(t, of("A", level), of("B", first), of("C", second)), want)
		}
	}
}

// TestCheckFirst has an entity with more wrong than one thing.
func TestCheckFirst(t *testing.T) {
	w := usualWorld(t)
	const (
		gap  = "A %s F99 %s 0 1\n"
		over = "A %s F00 %s 0 -9223372036854775808\n"
	)
	places := [][2]string{{"bank", "-"}, {"bank", "B"}, {"bank", "C"}, {"cap", "-"}, {"due", "-"}, {"due", "A"}, {"due", "B"}, {"owe", "A"}, {"plant", "-"}}
	for i, p := range places {
		for j, q := range places {
			if i == j {
				continue
			}
			want := api.ErrFlow
			if j < i {
				want = api.ErrOver
			}
			checkCheck(t, w, cubeOf(t, fmt.Sprintf(gap, p[0], p[1]), fmt.Sprintf(over, q[0], q[1])), want)
		}
	}
	// By partners, not by flows: the cube has C's flow ahead of B's.
	checkCheck(t, w, cubeOf(t, "A due F99 B 0 1\nA due F00 C 0 -9223372036854775808"), api.ErrFlow)
	checkCheck(t, w, cubeOf(t, "A due F00 C 0 1\nA due F20 B 0 -9223372036854775808"), api.ErrOver)
	// Gaps of all accounts ahead of the balance, opening ahead of closing.
	checkCheck(t, w, cubeOf(t, "A bank F00 - 0 5\nA bank F99 - 0 5\nA plant F99 - 0 1"), api.ErrFlow)
	checkCheck(t, w, cubeOf(t, "A bank F00 - 0 5\nA bank F99 - 0 5\nA plant F00 - 0 -9223372036854775808"), api.ErrOver)
	shutOver := "A bank F20 - 0 9223372036854775807\nA bank F99 - 0 9223372036854775807\nA dif F20 - 0 1\nA dif F99 - 0 1\n"
	checkCheck(t, w, cubeOf(t, shutOver), api.ErrOver)
	checkCheck(t, w, cubeOf(t, shutOver, "A plant F00 - 0 1\nA plant F20 - 0 -1"), api.ErrBalance)
	openOver := "A bank F00 - 0 9223372036854775807\nA bank F20 - 0 -9223372036854775807\nA dif F00 - 0 1\nA dif F20 - 0 -1\n"
	checkCheck(t, w, cubeOf(t, openOver, "A plant F99 - 0 1\nA plant F20 - 0 1"), api.ErrOver)
	checkCheck(t, w, cubeOf(t, openOver, "A plant F99 - 0 1"), api.ErrFlow)
	// An entity's balance ahead of the next one's gap.
	checkCheck(t, w, cubeOf(t, "A bank F00 - 0 5\nA bank F99 - 0 5\nB bank F99 - 0 1"), api.ErrBalance)
	checkCheck(t, w, cubeOf(t, "B bank F00 - 0 5\nB bank F99 - 0 5\nA bank F99 - 0 1"), api.ErrFlow)
}

// TestCheckTogether has what is right of some together alone.
func TestCheckTogether(t *testing.T) {
	w := usualWorld(t)
	// Two entities.
	c := cubeOf(t, "A bank F00 - 0 5\nA bank F99 - 0 5\nB cap F00 - 0 5\nB cap F99 - 0 5")
	checkWeigh(t, w, c, "", api.Open, 0, api.OK)
	checkWeigh(t, w, c, "", api.Close, 0, api.OK)
	checkCheck(t, w, c, api.ErrBalance)
	// Opening and closing.
	c = cubeOf(t, "A bank F00 - 0 5\nA bank F99 - 0 -5\nA bank F20 - 0 -10")
	checkCheck(t, w, c, api.ErrBalance)
	// Two accounts, two partners, an account with a partner and without.
	checkCheck(t, w, cubeOf(t, "A bank F20 - 0 5\nA plant F99 - 0 5\nA cap F99 - 0 5\nA cap F20 - 0 5"), api.ErrFlow)
	checkCheck(t, w, cubeOf(t, "A due F20 B 0 5\nA due F99 C 0 5\nA cap F99 - 0 5\nA cap F20 - 0 5"), api.ErrFlow)
	checkCheck(t, w, cubeOf(t, "A due F20 - 0 5\nA due F99 C 0 5\nA cap F99 - 0 5\nA cap F20 - 0 5"), api.ErrFlow)
	checkCheck(t, w, cubeOf(t, "A due F20 C 0 5\nA due F99 C 0 5\nA cap F99 - 0 5\nA cap F20 - 0 5"), api.OK)
	// Of several marks.
	checkCheck(t, w, cubeOf(t, "A bank F20 - 0 5\nA bank F20 - 1 2\nA bank F99 - 3 7\nA cap F15 - 2 7\nA cap F99 - 4 7"), api.OK)
	// Movements need not balance.
	checkCheck(t, w, cubeOf(t, "A bank F20 - 0 5\nA bank F15 - 0 -5\nA plant F80 - 0 3\nA plant F98 - 0 -3"), api.OK)
}

// TestCheckNobody has an Entity that is "": it stands first, and is weighed as "" is, that is with all others.
func TestCheckNobody(t *testing.T) {
	w := usualWorld(t)
	checkCheck(t, w, cubeOf(t, "- bank F00 - 0 5\n- bank F99 - 0 5\n- cap F00 - 0 5\n- cap F99 - 0 5"), api.OK)
	checkCheck(t, w, cubeOf(t, "- bank F99 - 0 5"), api.ErrFlow)
	checkCheck(t, w, cubeOf(t, "- bank F00 - 0 5\n- bank F99 - 0 5"), api.ErrBalance)
	checkCheck(t, w, cubeOf(t, "- bank F20 - 0 5\n- bank F99 - 0 5\nA cap F99 - 0 5\nA cap F20 - 0 5"), api.ErrBalance)
	checkCheck(t, w, cubeOf(t, "- bank F20 - 0 5\n- bank F15 - 0 -5\nA cap F99 - 0 5"), api.ErrBalance)
	checkCheck(t, w, cubeOf(t, "- bank F20 - 0 5\n- bank F15 - 0 -5\nA bank F99 - 0 5\nA cap F99 - 0 5"), api.ErrFlow)
	over := "A bank F20 - 0 9223372036854775807\nA bank F99 - 0 9223372036854775807\nA plant F20 - 0 -1\nA plant F99 - 0 -1\nA cap F20 - 0 9223372036854775806\nA cap F99 - 0 9223372036854775806\n"
	checkCheck(t, w, cubeOf(t, over), api.OK)
	checkCheck(t, w, cubeOf(t, over, "- bank F20 - 0 5\n- cap F20 - 0 5\n- bank F99 - 0 5\n- cap F99 - 0 5"), api.OK)
	checkCheck(t, w, cubeOf(t, over, "- bank F20 - 0 5\n- bank F99 - 0 5\n- owe F20 - 0 5\n- owe F99 - 0 5\nB bank F20 - 0 9\nB bank F99 - 0 9\nB cap F20 - 0 9\nB cap F99 - 0 9"), api.OK)
	// One that counts nothing is as if it were not there.
	checkCheck(t, w, cubeOf(t, "- bank F50 - 0 5\nA bank F99 - 0 1"), api.ErrFlow)
	checkCheck(t, w, cubeOf(t, "- none F00 - 0 5\nA bank F99 - 0 1"), api.ErrFlow)
}

// TestStrangers has facts whose flow, or account, the master data have not, alone and beside others.
func TestStrangers(t *testing.T) {
	w := usualWorld(t)
	strange := []string{"A none F00 - 0 5", "A none F99 - 0 9", "A bank F50 - 0 5", "A bank - - 1 5", "A - F20 - 0 5", "A none F50 B 0 5", "C none F99 - 2 -5", "C bank Z - 0 9223372036854775807", "- none F00 - 0 9223372036854775807", "- cap F01 - 0 -9223372036854775808"}
	for _, line := range strange {
		c := cubeOf(t, line)
		checkAll(t, w, c)
		checkCheck(t, w, c, api.OK)
		checkFix(t, w, c, 0, c, api.OK)
		both := cubeOf(t, usualCube, line)
		checkAll(t, w, both)
		checkCheck(t, w, both, api.OK)
		checkFix(t, w, both, 0, both, api.OK)
		// Beside a gap, they stay what they are.
		gap := cubeOf(t, "A bank F99 - 0 3", line)
		checkAll(t, w, gap)
		checkCheck(t, w, gap, api.ErrFlow)
		checkFix(t, w, gap, 3, cubeOf(t, "A bank F99 - 0 3\nA bank F02 - 1 3", line), api.OK)
	}
	all := cubeOf(t, strange...)
	checkAll(t, w, all)
	checkCheck(t, w, all, api.OK)
	checkFix(t, w, all, 0, all, api.OK)
}

func TestFix(t *testing.T) {
	w := usualWorld(t)
	for _, x := range []struct {
		lines, more string
		limit       int64 // the least one by which it may be
	}{
		{"A bank F99 - 0 5", "A bank F02 - 1 5", 5},
		{"A bank F99 - 0 -5", "A bank F02 - 1 -5", 5},
		{"A bank F00 - 0 5", "A bank F02 - 1 -5", 5},
		{"A bank F00 - 0 5\nA bank F20 - 0 2\nA bank F99 - 0 9", "A bank F02 - 1 2", 2},
		{"A bank F00 - 0 5\nA bank F20 - 0 2\nA bank F99 - 0 6", "A bank F02 - 1 -1", 1},
		// Of each class, with a partner, of any mark.
		{"A cap F99 - 4 5", "A cap F02 - 1 5", 5},
		{"A owe F99 B 3 5", "A owe F02 B 1 5", 5},
		{"A due F80 A 2 5", "A due F02 A 1 -5", 5},
		{"- loan F98 C 9 5", "- loan F02 C 1 -5", 5},
		// Both ends.
		{"A bank F99 - 0 9223372036854775807", "A bank F02 - 1 9223372036854775807", greatest},
		{"A bank F00 - 0 9223372036854775807", "A bank F02 - 1 -9223372036854775807", greatest},
		{"A bank F99 - 0 9223372036854775806", "A bank F02 - 1 9223372036854775806", greatest - 1},
		// Several, of one entity and of more.
		{"A bank F99 - 0 1\nA cap F99 - 0 -4\nA due F99 B 0 2", "A bank F02 - 1 1\nA cap F02 - 1 -4\nA due F02 B 1 2", 4},
		{"A due F99 B 0 1\nA due F00 C 0 2\nA due F20 - 0 3", "A due F02 B 1 1\nA due F02 C 1 -2\nA due F02 - 1 -3", 3},
		{"A bank F99 - 0 7\nB bank F99 - 0 1\nC bank F00 - 0 1\n- bank F99 - 0 3", "A bank F02 - 1 7\nB bank F02 - 1 1\nC bank F02 - 1 -1\n- bank F02 - 1 3", 7},
		{"A bank F00 - 0 1\nA bank F99 - 0 1\nB bank F99 - 0 1", "B bank F02 - 1 1", 1},
		// A movement is there already, of the Mark Book, and of others.
		{"A bank F02 - 1 3\nA bank F99 - 0 5", "A bank F02 - 1 2", 2},
		{"A bank F02 - 0 3\nA bank F99 - 0 5", "A bank F02 - 1 2", 2},
		{"A bank F02 - 2 3\nA bank F02 - 0 4\nA bank F99 - 0 5", "A bank F02 - 1 -2", 2},
		{"A bank F15 - 1 3\nA bank F20 - 1 4\nA bank F99 - 0 5", "A bank F02 - 1 -2", 2},
		// It falls away by what is added.
		{"A bank F02 - 1 3", "A bank F02 - 1 -3", 3},
		{"A bank F02 - 1 -3\nA bank F99 - 0 5\nA bank F20 - 0 5", "A bank F02 - 1 3", 3},
		{"A bank F02 - 1 3\nB bank F99 - 0 1", "A bank F02 - 1 -3\nB bank F02 - 1 1", 3},
		{"A bank F02 - 1 9223372036854775807", "A bank F02 - 1 -9223372036854775807", greatest},
	} {
		c, want := cubeOf(t, x.lines), cubeOf(t, x.lines, x.more)
		for _, limit := range []int64{x.limit, x.limit + 1, 2 * x.limit, greatest} {
			if limit >= x.limit {
				checkFix(t, w, c, limit, want, api.OK)
			}
		}
		checkErrors(t, w, c, api.ErrFlow, x.limit-1, x.limit/2, 0)
		checkErrors(t, w, c, api.ErrArg, -1, -x.limit, least)
		// There is nothing left to do.
		checkFix(t, w, want, 0, want, api.OK)
	}
}

// TestFixLimits has several gaps, of which some are above the limit.
func TestFixLimits(t *testing.T) {
	w := usualWorld(t)
	// Gaps of 2, -7 and 4: wherever the greatest stands, it is one.
	c := cubeOf(t, "A bank F99 - 0 2\nA due F00 B 0 7\nB cap F99 - 0 4")
	want := cubeOf(t, "A bank F99 - 0 2\nA due F00 B 0 7\nB cap F99 - 0 4\nA bank F02 - 1 2\nA due F02 B 1 -7\nB cap F02 - 1 4")
	for limit := int64(-3); limit < 12; limit++ {
		switch {
		case limit < 0:
			checkErrors(t, w, c, api.ErrArg, limit)
		case limit < 7:
			checkErrors(t, w, c, api.ErrFlow, limit)
		default:
			checkFix(t, w, c, limit, want, api.OK)
		}
	}
	for _, lines := range []string{"A bank F99 - 0 9\nA cap F99 - 0 1\nB bank F99 - 0 1", "A bank F99 - 0 1\nA cap F99 - 0 -9\nB bank F99 - 0 1", "A bank F99 - 0 1\nA cap F99 - 0 1\nB bank F99 - 0 9"} {
		checkErrors(t, w, cubeOf(t, lines), api.ErrFlow, 0, 1, 8)
	}
	// The greatest limit lets all be, but for the least amount.
	checkFix(t, w, cubeOf(t, "A bank F99 - 0 -9223372036854775807"), greatest, cubeOf(t, "A bank F99 - 0 -9223372036854775807\nA bank F02 - 1 -9223372036854775807"), api.OK)
	checkErrors(t, w, cubeOf(t, "A bank F99 - 0 -9223372036854775808"), api.ErrFlow, 0, 1, greatest-1, greatest)
	checkErrors(t, w, cubeOf(t, "A bank F99 - 0 -9223372036854775808"), api.ErrArg, -1, least)
}

// TestFixFlows has master data with no flow of the kind Move, with one, and with several.
func TestFixFlows(t *testing.T) {
	still := worldOf(t, stillText)
	level := cubeOf(t, "A bank F00 - 0 5\nA bank F99 - 0 5\nA bank F20 - 0 9")
	for _, limit := range []int64{0, 5, greatest} {
		checkFix(t, still, level, limit, level, api.OK)
		checkErrors(t, still, cubeOf(t, "A bank F99 - 0 5"), api.ErrFlow, limit)
	}
	checkErrors(t, still, level, api.ErrArg, -1)
	for moves, first := range map[string]string{
		"flow Z move":                               "Z",
		"flow F99a move":                            "F99a",
		"flow b move\nflow a move\nflow Z move":     "Z",
		"flow a10 move\nflow a2 move":               "a10",
		"flow F990 move\nflow F000 move":            "F000",
		"flow A move\nflow E move\nflow F move":     "A",
		"flow z.- move\nflow z-. move\nflow z move": "z",
	} {
		w := worldOf(t, stillText+moves+"\n")
		c := cubeOf(t, "A bank F99 - 0 5\nB bank F99 - 0 2")
		checkFix(t, w, c, 5, cubeOf(t, "A bank F99 - 0 5\nB bank F99 - 0 2\nA bank "+first+" - 1 5\nB bank "+first+" - 1 2"), api.OK)
		checkErrors(t, w, c, api.ErrFlow, 4)
	}
}

// TestFixFirst asks which error is told where more than one would hold.
func TestFixFirst(t *testing.T) {
	w, still := usualWorld(t), worldOf(t, stillText)
	const (
		gap  = " bank F99 - 0 5\n"
		over = " bank F00 - 0 -9223372036854775808\n"
		much = " bank F02 - 1 9223372036854775807\n%[1]s bank F00 - 0 -9223372036854775807\n%[1]s bank F99 - 0 5\n" // a gap of 5, that does not fit when it is added
	)
	of := func(entity, lines string) string { return fmt.Sprintf("%[1]s"+lines, entity) }
	for _, lines := range []string{gap, over, much} {
		checkErrors(t, w, cubeOf(t, of("A", lines)), api.ErrArg, -1, -5, least)
		checkErrors(t, still, cubeOf(t, of("A", lines)), api.ErrArg, -1, -5, least)
	}
	// The first place's counts.
	checkErrors(t, w, cubeOf(t, of("A", gap), of("B", over)), api.ErrFlow, 0, 4)
	checkErrors(t, w, cubeOf(t, of("A", gap), of("B", over)), api.ErrOver, 5, greatest)
	checkErrors(t, w, cubeOf(t, of("A", over), of("B", gap)), api.ErrOver, 0, 4, 5, greatest)
	checkErrors(t, still, cubeOf(t, of("A", gap), of("B", over)), api.ErrFlow, 0, 5, greatest)
	checkErrors(t, still, cubeOf(t, of("A", over), of("B", gap)), api.ErrOver, 0, 5, greatest)
	// By accounts, then by partners, whatever the flows are.
	checkErrors(t, w, cubeOf(t, "A due F99 B 0 1\nA due F00 C 0 -9223372036854775808"), api.ErrFlow, 0)
	checkErrors(t, w, cubeOf(t, "A due F20 B 0 -9223372036854775808\nA due F00 C 0 1"), api.ErrOver, 0)
	checkErrors(t, w, cubeOf(t, "A bank F99 B 0 1\nA due F00 - 0 -9223372036854775808"), api.ErrFlow, 0)
	// What does not fit when it is added is told behind all gaps.
	checkGap(t, w, cubeOf(t, of("A", much)), "A", "bank", "", 5, api.OK)
	checkErrors(t, w, cubeOf(t, of("A", much)), api.ErrOver, 5, greatest)
	checkErrors(t, w, cubeOf(t, of("A", much)), api.ErrFlow, 0, 4)
	checkErrors(t, w, cubeOf(t, of("A", much), "B bank F99 - 0 6"), api.ErrFlow, 5)
	checkErrors(t, w, cubeOf(t, of("A", much), "B bank F99 - 0 6"), api.ErrOver, 6)
	low := cubeOf(t, "A bank F02 - 1 -9223372036854775808\nA bank F00 - 0 9223372036854775807\nA bank F99 - 0 -5")
	checkGap(t, w, low, "A", "bank", "", -4, api.OK)
	checkErrors(t, w, low, api.ErrOver, 4, greatest)
	checkErrors(t, w, low, api.ErrFlow, 3)
	// Of another mark, or by another flow, it fits.
	other := "A bank F02 - 0 9223372036854775807\nA bank F00 - 0 -9223372036854775807\nA bank F99 - 0 5"
	checkFix(t, w, cubeOf(t, other), 5, cubeOf(t, other, "A bank F02 - 1 5"), api.OK)
	other = "A bank F15 - 1 9223372036854775807\nA bank F00 - 0 -9223372036854775807\nA bank F99 - 0 5"
	checkFix(t, w, cubeOf(t, other), 5, cubeOf(t, other, "A bank F02 - 1 5"), api.OK)
}

// TestFixBig has as many facts as there may be, and one more by what is added.
func TestFixBig(t *testing.T) {
	w := usualWorld(t)
	many := func(pairs int) []fact.Fact {
		var l []fact.Fact
		for i := range pairs {
			entity := "E" + strconv.Itoa(1000+i)
			l = append(l, factOf(entity+" bank F00 - 0 5"), factOf(entity+" bank F99 - 0 5"))
		}
		return l
	}
	full := cubeOfFacts(t, many(1000))
	checkCheck(t, w, full, api.ErrBalance)
	checkFix(t, w, full, 0, full, api.OK)
	one := cubeOfFacts(t, append(many(999), factOf("A bank F99 - 0 5")))
	checkFix(t, w, one, 5, cubeOfFacts(t, append(many(999), factOf("A bank F99 - 0 5"), factOf("A bank F02 - 1 5"))), api.OK)
	two := cubeOfFacts(t, append(many(999), factOf("A bank F99 - 0 5"), factOf("A cap F99 - 0 5")))
	checkErrors(t, w, two, api.ErrBig, 5, greatest)
	checkErrors(t, w, two, api.ErrFlow, 4)
	// One that falls away makes room.
	gone := cubeOfFacts(t, append(many(999), factOf("A bank F99 - 0 5"), factOf("A cap F02 - 1 5")))
	checkFix(t, w, gone, 5, cubeOfFacts(t, append(many(999), factOf("A bank F99 - 0 5"), factOf("A bank F02 - 1 5"))), api.OK)
}

// amounts are some that fit together, and some that do not.
var amounts = []int64{1, -1, 2, -2, 3, 5, -5, 8}
var great = []int64{greatest, -greatest, least, greatest - 1, 1 << 62, -1 << 62, 1, -1}

// anyCube answers a cube of up to n facts of few names, also such as there are not.
func anyCube(t testing.TB, r *rand.Rand, n int, from []int64) fact.Cube {
	pick := func(l ...string) string { return l[r.Intn(len(l))] }
	seen := map[fact.Key]int{}
	var l []fact.Fact
	for range r.Intn(n + 1) {
		k := fact.Key{
			Entity:  pick("A", "A", "B", "C", ""),
			Account: pick("bank", "due", "owe", "cap", "loan", "none"),
			Flow:    pick("F00", "F02", "F15", "F80", "F98", "F99", "F99", "F50"),
			Partner: pick("", "", "A", "B"),
			Mark:    r.Intn(6) - 1,
		}
		if seen[k]++; seen[k] == 1 {
			l = append(l, fact.Fact{Key: k, Amount: from[r.Intn(len(from))]})
		}
	}
	return cubeOfFacts(t, l)
}

// agreeing answers a cube without gaps in which each entity balances by each flow.
func agreeing(t testing.TB, r *rand.Rand, n int) fact.Cube {
	var l []fact.Fact
	put := func(entity, account, flow, partner string, amount int64) {
		l = append(l, fact.Fact{Key: fact.Key{Entity: entity, Account: account, Flow: flow, Partner: partner, Mark: r.Intn(5)}, Amount: amount})
	}
	for range r.Intn(n + 1) {
		entity := []string{"", "A", "B", "C"}[r.Intn(4)]
		account := []string{"bank", "due", "owe", "loan", "plant"}[r.Intn(5)]
		partner := []string{"", "A", "B"}[r.Intn(3)]
		flow := []string{"F00", "F02", "F15", "F20", "F80", "F98"}[r.Intn(6)]
		amount := amounts[r.Intn(len(amounts))]
		own := amount
		if account == "owe" || account == "loan" {
			own = -amount
		}
		put(entity, account, flow, partner, amount)
		put(entity, account, "F99", partner, amount)
		put(entity, "cap", flow, "", own)
		put(entity, "cap", "F99", "", own)
	}
	return cubeOfFacts(t, l)
}

// TestAny holds all calls against the chapter's words, for cubes of few names with all kinds of facts.
func TestAny(t *testing.T) {
	r := rand.New(rand.NewSource(1))
	worlds := []world{usualWorld(t), worldOf(t, stillText), worldOf(t, strings.NewReplacer("F99", "F01", "F00", "F97").Replace(masterText))}
	checks, fixes := map[api.Errno]int{}, map[api.Errno]int{}
	for i := range 3000 {
		w := worlds[i%len(worlds)]
		c := anyCube(t, r, 1+i%17, amounts)
		switch i % 5 {
		case 0:
			c = anyCube(t, r, 1+i%17, great)
		case 1:
			c = agreeing(t, r, 1+i%9)
		case 2:
			more, e := fact.Add(agreeing(t, r, 1+i%9), anyCube(t, r, 2, amounts))
			if e != api.OK {
				t.Fatalf("the test's own: %d", e)
			}
			c = more
		}
		checkAll(t, w, c)
		checks[Check(w.m, c)]++
		for _, limit := range []int64{-1, 2, greatest} {
			_, e := Fix(w.m, c, limit)
			fixes[e]++
		}
	}
	for _, e := range []api.Errno{api.OK, api.ErrFlow, api.ErrBalance, api.ErrOver} {
		if checks[e] < 20 {
			t.Errorf("the test's own: Check tells %d %d times", e, checks[e])
		}
	}
	for _, e := range []api.Errno{api.OK, api.ErrArg, api.ErrFlow, api.ErrOver} {
		if fixes[e] < 20 {
			t.Errorf("the test's own: Fix tells %d %d times", e, fixes[e])
		}
	}
}

// TestFixed asks P12.5: no gap is left behind a Fix, and what was told stays.
func TestFixed(t *testing.T) {
	w := usualWorld(t)
	r := rand.New(rand.NewSource(2))
	fixed := 0
	for i := range 1500 {
		c := anyCube(t, r, 1+i%20, amounts)
		d, e := Fix(w.m, c, greatest)
		if e != api.OK {
			t.Fatalf("Fix of %s: %d", told(c), e)
		}
		for _, f := range d {
			if n, e := Gap(w.m, d, f.Key.Entity, f.Key.Account, f.Key.Partner); n != 0 || e != api.OK {
				t.Errorf("Gap at %s behind a Fix: %d, %d", told(f), n, e)
			}
		}
		if e := Check(w.m, d); e != api.OK && e != api.ErrBalance {
			t.Errorf("Check behind a Fix: %d of %s", e, told(d))
		}
		checkFix(t, w, d, 0, d, api.OK)
		// Opening, closing, and what is of another flow or mark, is as it was.
		isOther := func(f fact.Fact) bool { return f.Key.Flow != "F02" || f.Key.Mark != fact.Book }
		if !slices.Equal(filter(c, isOther), filter(d, isOther)) {
			t.Errorf("Fix of %s told %s", told(c), told(d))
		}
		for _, kind := range []int{api.Open, api.Fx, api.Scope, api.Close} {
			before, _ := Weigh(w.m, c, "A", kind)
			checkWeigh(t, w, d, "A", kind, before, api.OK)
		}
		if !slices.Equal(c, d) {
			fixed++
		}
	}
	if fixed < 500 {
		t.Errorf("the test's own: %d had gaps", fixed)
	}
}

// TestFixedOver has a cube whose sums fit, and fit no more with the movement
// between them: Fix tells what P12.4 says, though P12.5 can't hold of it.
func TestFixedOver(t *testing.T) {
	w := usualWorld(t)
	lines := "A bank F00 - 0 -9223372036854775807\nA bank F15 - 0 50\nA bank F99 - 0 -9223372036854775767"
	checkGap(t, w, cubeOf(t, lines), "A", "bank", "", -10, api.OK)
	fixed := cubeOf(t, lines, "A bank F02 - 1 -10")
	checkFix(t, w, cubeOf(t, lines), 10, fixed, api.OK)
	checkGap(t, w, fixed, "A", "bank", "", 0, api.ErrOver)
}

// filter answers the facts that keep holds for.
func filter(c fact.Cube, keep func(f fact.Fact) bool) fact.Cube {
	var l fact.Cube
	for _, f := range c {
		if keep(f) {
			l = append(l, f)
		}
	}
	return l
}

// TestAgreeing asks P12.5 of cubes without gaps: Fix changes nothing, and what
// balances by itself balances together.
func TestAgreeing(t *testing.T) {
	r := rand.New(rand.NewSource(3))
	worlds := []world{usualWorld(t), worldOf(t, "flow A00 move\n"+masterText)}
	for i := range 600 {
		w := worlds[i%len(worlds)]
		c := agreeing(t, r, 1+i%30)
		checkCheck(t, w, c, api.OK)
		for _, kind := range []int{api.Open, api.Close} {
			for _, entity := range []string{"A", "B", "C", ""} {
				checkWeigh(t, w, c, entity, kind, 0, api.OK)
			}
		}
		for _, limit := range []int64{0, 1, greatest} {
			checkFix(t, w, c, limit, c, api.OK)
		}
		// One amount that is another is seen.
		if len(c) > 0 {
			at := r.Intn(len(c))
			d := slices.Clone(c)
			d[at].Amount += 100
			checkCheck(t, w, d, wantCheck(w, d))
			if Check(w.m, d) == api.OK {
				t.Errorf("Check does not see %s", told(d[at]))
			}
		}
	}
}

// TestAnew changes what Fix answered, and asks again: nothing is kept.
func TestAnew(t *testing.T) {
	w := usualWorld(t)
	c := cubeOf(t, "A bank F99 - 0 5\nB cap F00 - 0 3\n")
	want := cubeOf(t, "A bank F99 - 0 5\nB cap F00 - 0 3\nA bank F02 - 1 5\nB cap F02 - 1 -3\n")
	a, _ := Fix(w.m, c, 5)
	b, _ := Fix(w.m, c, 5)
	_ = append(a[:1], fact.Fact{Amount: 77})
	clear(a)
	if !slices.Equal(b, want) {
		t.Errorf("one answer changed another: %s", told(b))
	}
	level := cubeOf(t, usualCube)
	same, _ := Fix(w.m, level, 5)
	clear(same)
	if !slices.Equal(level, cubeOf(t, usualCube)) {
		t.Errorf("what was handed in was answered")
	}
	checkErrors(t, w, c, api.ErrFlow, 4)
	checkFix(t, w, c, 5, want, api.OK)
	checkFix(t, worldOf(t, stillText), nil, 5, nil, api.OK)
	checkFix(t, w, c, 5, want, api.OK)
	checkCheck(t, w, level, api.OK)
}

// TestNoMasters calls with master data that no text tells, and facts that are
// no cube: nothing is asked but that the calls end, change nothing, have
// nothing beside an error, and answer the same again.
func TestNoMasters(t *testing.T) {
	r := rand.New(rand.NewSource(4))
	some := []string{"", "A", "B", "bank", "cap", "F00", "F02", "F99", "F", "é", "\xff", " ", "-", strings.Repeat("x", 100)}
	anyName := func() string { return some[r.Intn(len(some))] }
	usual := usualWorld(t).m
	masters := []unit.Master{{}, usual, {Chart: usual.Chart}, {Flows: usual.Flows}, {Chart: usual.Chart, Flows: slices.Concat(usual.Flows, usual.Flows)}}
	for range 400 {
		var m unit.Master
		for range r.Intn(9) {
			m.Chart = append(m.Chart, chart.Account{Code: anyName(), Class: r.Intn(6) - 2, Mutual: r.Intn(2) == 0, Fixed: anyName()})
			m.Flows = append(m.Flows, flow.Flow{Code: anyName(), Kind: r.Intn(9) - 2})
		}
		masters = append(masters, m)
	}
	for _, m := range masters {
		var c fact.Cube
		for range r.Intn(40) {
			k := fact.Key{Entity: anyName(), Account: anyName(), Flow: anyName(), Partner: anyName(), Mark: r.Intn(9) - 2}
			c = append(c, fact.Fact{Key: k, Amount: []int64{0, 1, -1, least, greatest}[r.Intn(5)]})
		}
		checkEnds(t, m, c, anyName(), anyName(), anyName(), r.Intn(9)-2, int64(r.Intn(5)-1))
		checkEnds(t, m, append(slices.Clone(c), c...), anyName(), anyName(), anyName(), math.MinInt, greatest)
	}
}

func checkEnds(t *testing.T, m unit.Master, c fact.Cube, entity, account, partner string, kind int, limit int64) {
	t.Helper()
	unchanged(t, m, c, func() {
		n, e := Gap(m, c, entity, account, partner)
		if again, eAgain := Gap(m, c, entity, account, partner); n != again || e != eAgain || e != api.OK && n != 0 {
			t.Errorf("Gap = %d, %d, and %d, %d", n, e, again, eAgain)
		}
		n, e = Weigh(m, c, entity, kind)
		if again, eAgain := Weigh(m, c, entity, kind); n != again || e != eAgain || e != api.OK && n != 0 {
			t.Errorf("Weigh = %d, %d, and %d, %d", n, e, again, eAgain)
		}
		if e := Check(m, c); e != Check(m, c) {
			t.Errorf("Check = %d, and something else", e)
		}
		d, e := Fix(m, c, limit)
		if again, eAgain := Fix(m, c, limit); !slices.Equal(d, again) || e != eAgain || e != api.OK && len(d) != 0 {
			t.Errorf("Fix = %s, %d, and %s, %d", told(d), e, told(again), eAgain)
		}
	})
}

// FuzzAll holds all calls against the chapter's words, of a cube whose facts are told by four bytes each.
func FuzzAll(f *testing.F) {
	for _, s := range []string{"", "\x00\x00\x00\x05", "\x00\x00\x00\x05\x00\x05\x00\x05", "\x12\x34\x56\x78\x9a\xbc\xde\xf0\x01\x02\x03\x04"} {
		f.Add([]byte(s))
	}
	w := usualWorld(f)
	f.Fuzz(func(t *testing.T, b []byte) {
		seen := map[fact.Key]int{}
		var l []fact.Fact
		for ; len(b) >= 4 && len(l) < 100; b = b[4:] {
			k := fact.Key{
				Entity:  []string{"A", "B", "", "C"}[b[0]%4],
				Account: []string{"bank", "due", "owe", "cap", "loan", "none", "dif", "plant"}[b[0]/4%8],
				Flow:    []string{"F00", "F99", "F02", "F15", "F20", "F80", "F98", "F50"}[b[1]%8],
				Partner: []string{"", "A", "B", "C"}[b[1]/8%4],
				Mark:    int(b[2] % 6),
			}
			amount := slices.Concat(amounts, great)[b[3]%16]
			if seen[k]++; seen[k] == 1 {
				l = append(l, fact.Fact{Key: k, Amount: amount})
			}
		}
		checkAll(t, w, cubeOfFacts(t, l))
	})
}

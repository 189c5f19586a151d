package fact

import (
	"fmt"
	"math"
	"math/big"
	"math/rand"
	"slices"
	"sort"
	"strconv"
	"strings"
	"testing"

	"comptroller/api"
)

const (
	least    = math.MinInt64
	greatest = math.MaxInt64
)

// key tells a key in short.
func key(entity, account, flow, partner string, mark int) Key {
	return Key{Entity: entity, Account: account, Flow: flow, Partner: partner, Mark: mark}
}

// of tells a fact of a key that has no more than an entity.
func of(entity string, amount int64) Fact {
	return Fact{Key: Key{Entity: entity}, Amount: amount}
}

// risingTexts are texts that rise, byte by byte: empty, beginning alike, not ASCII, not even runes.
func risingTexts() []string {
	return []string{"", "\x00", " ", "-", "1", "10", "2", "A", "A ", "A-", "A1", "AA", "AAA", "AB", "B", "Z", "_", "a", "aa", "b", "z", "{", "Ä", "ß", "é", "é1", "ééé", "€", "漢", "漢字", "\xff", "\xff\xff"}
}

// risingMarks are marks that rise: those that are counted, and others.
func risingMarks() []int {
	return []int{math.MinInt, math.MinInt + 1, -2, -1, Told, Book, Scaled, Struck, Parted, 5, 1 << 40, math.MaxInt - 1, math.MaxInt}
}

// risingKeys are keys that rise, of few texts and marks, each beside each other.
func risingKeys() []Key {
	few := []string{"", "A", "AA", "é"}
	var keys []Key
	for _, entity := range few {
		for _, account := range few {
			for _, flow := range few {
				for _, partner := range few {
					for _, mark := range []int{-1, Told, Parted} {
						keys = append(keys, key(entity, account, flow, partner, mark))
					}
				}
			}
		}
	}
	return keys
}

// usual are ordinary facts, in no order, with more than one of some keys.
func usual() []Fact {
	return []Fact{
		{key("B", "bank", "F99", "", Told), 5},
		{key("A", "due", "F99", "B", Told), 100},
		{key("A", "bank", "F20", "", Told), 3},
		{key("A", "bank", "F00", "", Told), 10},
		{key("B", "bank", "F00", "", Told), 5},
		{key("A", "bank", "F20", "", Told), -1},
		{key("A", "bank", "F20", "", Book), 4},
		{key("A", "due", "F20", "B", Told), 30},
		{key("A", "due", "F20", "B", Told), -30},
		{key("A", "due", "F99", "C", Told), 7},
		{key("A", "bank", "F99", "", Told), 16},
		{key("B", "owe", "F99", "A", Scaled), 98},
		{key("A", "loan", "F99", "", Told), 0},
	}
}

// usualCube is what usual comes to.
func usualCube() Cube {
	return Cube{
		{key("A", "bank", "F00", "", Told), 10},
		{key("A", "bank", "F20", "", Told), 2},
		{key("A", "bank", "F20", "", Book), 4},
		{key("A", "bank", "F99", "", Told), 16},
		{key("A", "due", "F99", "B", Told), 100},
		{key("A", "due", "F99", "C", Told), 7},
		{key("B", "bank", "F00", "", Told), 5},
		{key("B", "bank", "F99", "", Told), 5},
		{key("B", "owe", "F99", "A", Scaled), 98},
	}
}

// many answers facts of n keys, which rise, each of this amount.
func many(n int, amount int64) []Fact {
	l := make([]Fact, n)
	for i := range l {
		l[i] = Fact{Key: key("A", strconv.Itoa(1000000+i/5), "F", "", i%5), Amount: amount}
	}
	return l
}

// mixed answers l in another order, as r will have it.
func mixed(r *rand.Rand, l []Fact) []Fact {
	other := slices.Clone(l)
	r.Shuffle(len(other), func(i, j int) { other[i], other[j] = other[j], other[i] })
	return other
}

// reversed answers l from the last one to the first.
func reversed(l []Fact) []Fact {
	other := slices.Clone(l)
	slices.Reverse(other)
	return other
}

// otherSigns answers c with amounts of the other sign.
func otherSigns(c Cube) Cube {
	other := slices.Clone(c)
	for i := range other {
		other[i].Amount = -other[i].Amount
	}
	return other
}

// told answers facts, or what else, so that each byte can be seen; only the beginning, if it is long.
func told(what any) string {
	s := fmt.Sprintf("%+q", fmt.Sprint(what))
	return s[:min(len(s), 600)]
}

// wantTexts answers how a stands to b, byte by byte.
func wantTexts(a, b string) int {
	for i := range min(len(a), len(b)) {
		if a[i] != b[i] {
			if a[i] < b[i] {
				return -1
			}
			return 1
		}
	}
	switch {
	case len(a) < len(b):
		return -1
	case len(a) > len(b):
		return 1
	}
	return 0
}

// wantCmp answers what P9.1 asks of Cmp.
func wantCmp(a, b Key) int {
	for _, pair := range [][2]string{{a.Entity, b.Entity}, {a.Account, b.Account}, {a.Flow, b.Flow}, {a.Partner, b.Partner}} {
		if n := wantTexts(pair[0], pair[1]); n != 0 {
			return n
		}
	}
	switch {
	case a.Mark < b.Mark:
		return -1
	case a.Mark > b.Mark:
		return 1
	}
	return 0
}

// wantSum answers what P1.2 asks of a sum, by numbers of any size.
func wantSum(amounts []int64) (int64, api.Errno) {
	sum := new(big.Int)
	for _, a := range amounts {
		if !sum.Add(sum, big.NewInt(a)).IsInt64() {
			return 0, api.ErrOver
		}
	}
	return sum.Int64(), api.OK
}

// wantOf answers what P9.2 asks of Of: key by key, each with the whole list gone through.
func wantOf(l []Fact) (Cube, api.Errno) {
	amounts := map[Key][]int64{}
	for _, f := range l {
		amounts[f.Key] = append(amounts[f.Key], f.Amount)
	}
	var c Cube
	for k, of := range amounts {
		sum, e := wantSum(of)
		if e != api.OK {
			return nil, e
		}
		if sum != 0 {
			c = append(c, Fact{Key: k, Amount: sum})
		}
	}
	if len(c) > 2000 {
		return nil, api.ErrBig
	}
	sort.Slice(c, func(i, j int) bool { return wantCmp(c[i].Key, c[j].Key) < 0 })
	return c, api.OK
}

// wantRight answers what P9.3 asks of Right: each fact held against all behind it.
func wantRight(c Cube) bool {
	for i, f := range c {
		for _, g := range c[i+1:] {
			if wantCmp(f.Key, g.Key) >= 0 {
				return false
			}
		}
		if f.Amount == 0 {
			return false
		}
	}
	return len(c) <= 2000
}

// wantAsked answers what P9.5 asks of Sum, of those facts that fit.
func wantAsked(c Cube, entity, account, flow string) (int64, api.Errno) {
	var amounts []int64
	for _, f := range c {
		if entity != "" && f.Key.Entity != entity || account != "" && f.Key.Account != account || flow != "" && f.Key.Flow != flow {
			continue
		}
		amounts = append(amounts, f.Amount)
	}
	return wantSum(amounts)
}

// wantPick answers what P9.5 asks of Pick.
func wantPick(c Cube, entity string, mark int) Cube {
	var picked Cube
	for _, f := range c {
		if entity != "" && f.Key.Entity != entity || mark >= 0 && f.Key.Mark != mark {
			continue
		}
		picked = append(picked, f)
	}
	return picked
}

func checkCmp(t *testing.T, a, b Key, want int) {
	t.Helper()
	if n := Cmp(a, b); n != want {
		t.Errorf("Cmp(%s, %s) = %d; want %d", told(a), told(b), n, want)
	}
}

func checkOf(t *testing.T, l []Fact, want Cube, wantE api.Errno) {
	t.Helper()
	before := slices.Clone(l)
	c, e := Of(l)
	if !slices.Equal(c, want) || e != wantE {
		t.Errorf("Of(%s) = %s, %d; want %s, %d", told(before), told(c), e, told(want), wantE)
	}
	if e == api.OK && !Right(c) {
		t.Errorf("Of(%s) = %s, which is no cube", told(before), told(c))
	}
	// What is answered is the caller's to change.
	for i := range c {
		c[i] = of("changed", 77)
	}
	if !slices.Equal(l, before) {
		t.Errorf("Of changed %s to %s, or answered a part of it", told(before), told(l))
	}
}

func checkAdd(t *testing.T, a, b, want Cube, wantE api.Errno) {
	t.Helper()
	beforeA, beforeB := slices.Clone(a), slices.Clone(b)
	c, e := Add(a, b)
	if !slices.Equal(c, want) || e != wantE {
		t.Errorf("Add(%s, %s) = %s, %d; want %s, %d", told(beforeA), told(beforeB), told(c), e, told(want), wantE)
	}
	for i := range c {
		c[i] = of("changed", 77)
	}
	if !slices.Equal(a, beforeA) || !slices.Equal(b, beforeB) {
		t.Errorf("Add changed %s or %s, or answered a part of it", told(beforeA), told(beforeB))
	}
}

func checkRight(t *testing.T, c Cube, want bool) {
	t.Helper()
	before := slices.Clone(c)
	if is := Right(c); is != want {
		t.Errorf("Right(%s) = %t", told(before), is)
	}
	if !slices.Equal(c, before) {
		t.Errorf("Right changed %s", told(before))
	}
}

func checkGet(t *testing.T, c Cube, k Key, want int64) {
	t.Helper()
	before := slices.Clone(c)
	if n := Get(c, k); n != want {
		t.Errorf("Get(%s, %s) = %d; want %d", told(before), told(k), n, want)
	}
	if !slices.Equal(c, before) {
		t.Errorf("Get changed %s", told(before))
	}
}

func checkSum(t *testing.T, c Cube, entity, account, flow string, want int64, wantE api.Errno) {
	t.Helper()
	before := slices.Clone(c)
	if n, e := Sum(c, entity, account, flow); n != want || e != wantE {
		t.Errorf("Sum(%s, %q, %q, %q) = %d, %d; want %d, %d", told(before), entity, account, flow, n, e, want, wantE)
	}
	if !slices.Equal(c, before) {
		t.Errorf("Sum changed %s", told(before))
	}
}

func checkPick(t *testing.T, c Cube, entity string, mark int, want Cube) {
	t.Helper()
	before := slices.Clone(c)
	picked := Pick(c, entity, mark)
	if !slices.Equal(picked, want) {
		t.Errorf("Pick(%s, %q, %d) = %s; want %s", told(before), entity, mark, told(picked), told(want))
	}
	for i := range picked {
		picked[i] = of("changed", 77)
	}
	if !slices.Equal(c, before) {
		t.Errorf("Pick changed %s, or answered a part of it", told(before))
	}
}

func TestMarks(t *testing.T) {
	if marks := []int{Told, Book, Scaled, Struck, Parted}; !slices.Equal(marks, []int{0, 1, 2, 3, 4}) {
		t.Errorf("marks: %v", marks)
	}
}

func TestCmp(t *testing.T) {
	for _, x := range []struct {
		a, b Key
		want int
	}{
		{Key{}, Key{}, 0},
		{key("A", "x", "F", "B", Book), key("A", "x", "F", "B", Book), 0},
		// One part alone differs.
		{key("A", "x", "F", "P", 1), key("B", "x", "F", "P", 1), -1},
		{key("A", "x", "F", "P", 1), key("A", "y", "F", "P", 1), -1},
		{key("A", "x", "F", "P", 1), key("A", "x", "G", "P", 1), -1},
		{key("A", "x", "F", "P", 1), key("A", "x", "F", "Q", 1), -1},
		{key("A", "x", "F", "P", 1), key("A", "x", "F", "P", 2), -1},
		// What comes first counts, whatever is behind it.
		{key("A", "z", "Z", "Z", 9), key("B", "a", "A", "A", 0), -1},
		{key("A", "x", "Z", "Z", 9), key("A", "y", "A", "A", 0), -1},
		{key("A", "x", "F", "Z", 9), key("A", "x", "G", "A", 0), -1},
		{key("A", "x", "F", "P", 9), key("A", "x", "F", "Q", 0), -1},
		// Texts that are one behind the other are alike, but the parts are not.
		{key("A", "AB", "F", "", 0), key("AA", "B", "F", "", 0), -1},
		{key("A", "x", "FP", "", 0), key("A", "x", "F", "P", 0), 1},
		{key("", "A", "", "", 0), key("A", "", "", "", 0), -1},
		// Empty ones, and such as begin alike.
		{key("A", "x", "F", "", 0), key("A", "x", "F", "P", 0), -1},
		{key("E1", "", "", "", 0), key("E10", "", "", "", 0), -1},
		{key("E10", "", "", "", 0), key("E2", "", "", "", 0), -1},
		// As bytes stand, not as people sort.
		{key("Z", "", "", "", 0), key("a", "", "", "", 0), -1},
		{key("z", "", "", "", 0), key("é", "", "", "", 0), -1},
		{key("é", "", "", "", 0), key("漢", "", "", "", 0), -1},
		{key("漢", "", "", "", 0), key("\xff", "", "", "", 0), -1},
		// Marks as numbers, of any size: what is between them need not fit.
		{key("", "", "", "", -1), key("", "", "", "", 0), -1},
		{key("", "", "", "", -2), key("", "", "", "", -1), -1},
		{key("", "", "", "", 9), key("", "", "", "", 10), -1},
		{key("", "", "", "", math.MinInt), key("", "", "", "", math.MaxInt), -1},
		{key("", "", "", "", math.MinInt), key("", "", "", "", 1), -1},
	} {
		checkCmp(t, x.a, x.b, x.want)
		checkCmp(t, x.b, x.a, -x.want)
	}
}

// TestCmpParts holds all texts and marks against each other, in each part of a key.
func TestCmpParts(t *testing.T) {
	for i, s := range risingTexts() {
		for j, u := range risingTexts() {
			want := 0
			if i < j {
				want = -1
			} else if i > j {
				want = 1
			}
			checkCmp(t, key(s, "x", "F", "P", 1), key(u, "x", "F", "P", 1), want)
			checkCmp(t, key("A", s, "F", "P", 1), key("A", u, "F", "P", 1), want)
			checkCmp(t, key("A", "x", s, "P", 1), key("A", "x", u, "P", 1), want)
			checkCmp(t, key("A", "x", "F", s, 1), key("A", "x", "F", u, 1), want)
		}
	}
	for i, m := range risingMarks() {
		for j, n := range risingMarks() {
			want := 0
			if i < j {
				want = -1
			} else if i > j {
				want = 1
			}
			checkCmp(t, key("A", "x", "F", "P", m), key("A", "x", "F", "P", n), want)
		}
	}
}

// TestCmpAll holds keys of few texts and marks against each other, all of them.
func TestCmpAll(t *testing.T) {
	keys := risingKeys()
	for i, a := range keys {
		for j, b := range keys {
			want := 0
			if i < j {
				want = -1
			} else if i > j {
				want = 1
			}
			checkCmp(t, a, b, want)
			if wantCmp(a, b) != want {
				t.Fatalf("the test's own: %s, %s", told(a), told(b))
			}
		}
	}
}

func TestOf(t *testing.T) {
	checkOf(t, nil, nil, api.OK)
	checkOf(t, []Fact{}, nil, api.OK)
	checkOf(t, usual(), usualCube(), api.OK)
	checkOf(t, usualCube(), usualCube(), api.OK)
	checkOf(t, reversed(usualCube()), usualCube(), api.OK)
	for _, x := range []struct{ l, want []Fact }{
		// The chapter's example.
		{[]Fact{of("a", 1), of("a", 2), of("b", 0)}, []Fact{of("a", 3)}},
		// One.
		{[]Fact{of("a", 1)}, []Fact{of("a", 1)}},
		{[]Fact{of("", 1)}, []Fact{of("", 1)}},
		{[]Fact{of("a", 0)}, nil},
		{[]Fact{of("a", greatest)}, []Fact{of("a", greatest)}},
		{[]Fact{of("a", least)}, []Fact{of("a", least)}},
		// Of the same key, side by side or not.
		{[]Fact{of("a", 1), of("a", 1)}, []Fact{of("a", 2)}},
		{[]Fact{of("a", 1), of("b", 5), of("a", 2)}, []Fact{of("a", 3), of("b", 5)}},
		{[]Fact{of("b", 1), of("a", 5), of("b", 2), of("a", 7), of("b", 4)}, []Fact{of("a", 12), of("b", 7)}},
		// In falling and in mixed order.
		{[]Fact{of("c", 1), of("b", 2), of("a", 3)}, []Fact{of("a", 3), of("b", 2), of("c", 1)}},
		{[]Fact{of("b", 2), of("c", 1), of("a", 3)}, []Fact{of("a", 3), of("b", 2), of("c", 1)}},
		{[]Fact{of("漢", 4), of("é", 3), of("a", 2), of("", 1)}, []Fact{of("", 1), of("a", 2), of("é", 3), of("漢", 4)}},
		// Keys whose sum is 0 are left out, and those alone.
		{[]Fact{of("a", 5), of("a", -5)}, nil},
		{[]Fact{of("a", 0), of("a", 0)}, nil},
		{[]Fact{of("a", 5), of("b", 1), of("a", -5)}, []Fact{of("b", 1)}},
		{[]Fact{of("a", 1), of("b", 2), of("c", 3), of("b", -2)}, []Fact{of("a", 1), of("c", 3)}},
		{[]Fact{of("a", 2), of("a", -1), of("a", -1)}, nil},
		{[]Fact{of("a", greatest), of("a", -greatest)}, nil},
		{[]Fact{of("a", least), of("a", greatest), of("a", 1)}, nil},
		{[]Fact{of("a", 0), of("a", 3)}, []Fact{of("a", 3)}},
		{[]Fact{of("a", 3), of("a", -3), of("a", 3)}, []Fact{of("a", 3)}},
		// Both ends.
		{[]Fact{of("a", greatest-1), of("a", 1)}, []Fact{of("a", greatest)}},
		{[]Fact{of("a", least+1), of("a", -1)}, []Fact{of("a", least)}},
		{[]Fact{of("a", least), of("a", greatest)}, []Fact{of("a", -1)}},
		{[]Fact{of("a", greatest), of("b", greatest)}, []Fact{of("a", greatest), of("b", greatest)}},
		{[]Fact{of("b", least), of("a", least)}, []Fact{of("a", least), of("b", least)}},
	} {
		checkOf(t, x.l, x.want, api.OK)
	}
}

// TestOfParts asks for facts apart whose keys differ in one part alone, and together where they do not.
func TestOfParts(t *testing.T) {
	k := key("A", "x", "F", "P", 1)
	for _, other := range []Key{
		key("", "x", "F", "P", 1), key("AA", "x", "F", "P", 1), key("Aé", "x", "F", "P", 1), key("a", "x", "F", "P", 1),
		key("A", "", "F", "P", 1), key("A", "xx", "F", "P", 1), key("A", "xé", "F", "P", 1), key("A", "X", "F", "P", 1),
		key("A", "x", "", "P", 1), key("A", "x", "FF", "P", 1), key("A", "x", "Fé", "P", 1), key("A", "x", "f", "P", 1),
		key("A", "x", "F", "", 1), key("A", "x", "F", "PP", 1), key("A", "x", "F", "Pé", 1), key("A", "x", "F", "p", 1),
		key("A", "x", "F", "P", 0), key("A", "x", "F", "P", 2), key("A", "x", "F", "P", -1), key("A", "x", "F", "P", math.MinInt), key("A", "x", "F", "P", math.MaxInt),
	} {
		want := Cube{{k, 6}, {other, 40}}
		if wantCmp(other, k) < 0 {
			slices.Reverse(want)
		}
		checkOf(t, []Fact{{k, 2}, {other, 30}, {k, 4}, {other, 10}}, want, api.OK)
		checkOf(t, []Fact{{other, 10}, {k, 2}, {other, 30}, {k, 4}}, want, api.OK)
		// The other sign of another key's amount takes nothing away.
		checkOf(t, []Fact{{k, 5}, {other, -5}, {k, 1}, {other, 45}}, want, api.OK)
	}
	checkOf(t, []Fact{{k, 2}, {key("A", "x", "F", "P", 1), 4}}, Cube{{k, 6}}, api.OK)
}

// TestOfKeys asks for keys in their order, from wherever they come.
func TestOfKeys(t *testing.T) {
	var l []Fact
	for i, k := range risingKeys() {
		l = append(l, Fact{k, int64(i + 1)})
	}
	checkOf(t, l, l, api.OK)
	checkOf(t, reversed(l), l, api.OK)
	r := rand.New(rand.NewSource(1))
	for range 20 {
		checkOf(t, mixed(r, l), l, api.OK)
	}
}

func TestOfOver(t *testing.T) {
	for _, l := range [][]Fact{
		{of("a", greatest), of("a", 1)},
		{of("a", least), of("a", -1)},
		{of("a", greatest), of("a", greatest)},
		{of("a", least), of("a", least)},
		// On the way, though the whole would fit: facts stand in order.
		{of("a", greatest), of("a", 1), of("a", -1)},
		{of("a", least), of("a", -1), of("a", 1)},
		{of("a", 1), of("a", greatest), of("a", least)},
		{of("a", greatest), of("a", 1), of("a", least)},
		{of("a", greatest), of("b", 1), of("a", 1), of("b", 2), of("a", -5)},
		// Whichever key it is.
		{of("a", 1), of("b", greatest), of("b", 1), of("c", 1)},
		{of("c", greatest), of("b", 1), of("a", 1), of("c", 1)},
		{of("a", greatest), of("z", 1), of("a", 1)},
		// Several of them, the lesser one standing first, or not.
		{of("a", greatest), of("a", 1), of("b", least), of("b", -1)},
		{of("b", greatest), of("b", 1), of("a", least), of("a", -1)},
		{of("b", greatest), of("a", least), of("b", 1), of("a", -1)},
	} {
		checkOf(t, l, nil, api.ErrOver)
	}
	// The same facts in another order fit.
	checkOf(t, []Fact{of("a", greatest), of("a", -1), of("a", 1)}, []Fact{of("a", greatest)}, api.OK)
	checkOf(t, []Fact{of("a", 1), of("a", least), of("a", greatest)}, nil, api.OK)
	checkOf(t, []Fact{of("a", greatest), of("b", 3), of("a", least), of("b", 4), of("a", greatest)}, []Fact{of("a", greatest-1), of("b", 7)}, api.OK)
}

// TestOfOrder asks for amounts of one key in order, among many of other keys, where another order would not fit.
func TestOfOrder(t *testing.T) {
	var l, fits, not []Fact
	for i := range 300 {
		l = append(l, of("b"+strconv.Itoa((i*7)%300), 1))
	}
	want, _ := wantOf(l)
	for i := range 100 {
		up, down := of("a", greatest), of("a", -greatest)
		fits = append(append(append(fits, l[3*i:3*i+3]...), up), down)
		not = append(append(append(not, l[3*i:3*i+3]...), down), up)
	}
	checkOf(t, fits, want, api.OK)
	checkOf(t, not, want, api.OK)
	checkOf(t, append([]Fact{of("a", 1)}, fits...), nil, api.ErrOver)
	checkOf(t, append([]Fact{of("a", 1)}, not...), append(Cube{of("a", 1)}, want...), api.OK)
	checkOf(t, append([]Fact{of("a", -1)}, fits...), append(Cube{of("a", -1)}, want...), api.OK)
	checkOf(t, append([]Fact{of("a", -2)}, not...), nil, api.ErrOver)
}

func TestOfMany(t *testing.T) {
	r := rand.New(rand.NewSource(2))
	most := many(2000, 3)
	checkOf(t, most, most, api.OK)
	checkOf(t, reversed(most), most, api.OK)
	checkOf(t, mixed(r, most), most, api.OK)
	// Many facts of these keys are no more of them.
	checkOf(t, slices.Concat(most, most, most), many(2000, 9), api.OK)
	checkOf(t, mixed(r, slices.Concat(most, most)), many(2000, 6), api.OK)
	// One key more, and one more whose sum is 0, wherever it stands.
	for _, entity := range []string{"", "A", "B"} {
		checkOf(t, append(slices.Clone(most), of(entity, 1)), nil, api.ErrBig)
		checkOf(t, append([]Fact{of(entity, 1)}, most...), nil, api.ErrBig)
		checkOf(t, append(slices.Clone(most), of(entity, 0)), most, api.OK)
		checkOf(t, append([]Fact{of(entity, 0)}, most...), most, api.OK)
		checkOf(t, slices.Concat([]Fact{of(entity, 5)}, most, []Fact{of(entity, -5)}), most, api.OK)
	}
	checkOf(t, many(2001, 1), nil, api.ErrBig)
	checkOf(t, many(2001, 1)[1:], many(2001, 1)[1:], api.OK)
	checkOf(t, many(5000, 1), nil, api.ErrBig)
	checkOf(t, many(5000, 0), nil, api.OK)
	checkOf(t, append(many(5000, 1), many(5000, -1)...), nil, api.OK)
	checkOf(t, append(many(5000, 1), many(5000, -1)[2000:]...), many(2000, 1), api.OK)
	checkOf(t, append(many(5000, 1), many(5000, -1)[2001:]...), nil, api.ErrBig)
	// A key that comes back to 0 takes no place of another.
	checkOf(t, append(many(2001, 1), many(1, -1)...), many(2001, 1)[1:], api.OK)
}

// TestOfFirst asks which error is told where there are too many keys, and a sum does not fit besides.
func TestOfFirst(t *testing.T) {
	for _, entity := range []string{"", "A", "B"} {
		over := []Fact{of(entity, greatest), of(entity, 1)}
		checkOf(t, append(many(2001, 1), over...), nil, api.ErrOver)
		checkOf(t, append(slices.Clone(over), many(2001, 1)...), nil, api.ErrOver)
		checkOf(t, append(many(2000, 1), over...), nil, api.ErrOver)
		checkOf(t, append(many(1999, 1), over...), nil, api.ErrOver)
	}
	checkOf(t, append(many(2001, greatest), many(2001, 1)...), nil, api.ErrOver)
}

// anyFacts answers facts of few of these keys, so that most have several, and some are 0 together, or do not fit.
func anyFacts(r *rand.Rand, all []Key, most int) []Fact {
	keys := make([]Key, 1+r.Intn(12))
	for i := range keys {
		keys[i] = all[r.Intn(len(all))]
	}
	amounts := []int64{0, 1, -1, 2, -2, 3, -3}
	if r.Intn(3) == 0 {
		amounts = append(amounts, greatest, least, greatest-1, least+1, 1<<62, -(1 << 62))
	}
	l := make([]Fact, r.Intn(most+1))
	for i := range l {
		l[i] = Fact{keys[r.Intn(len(keys))], amounts[r.Intn(len(amounts))]}
	}
	return l
}

// TestOfAny holds Of, and what is asked of its answers, against the chapter's words.
func TestOfAny(t *testing.T) {
	r := rand.New(rand.NewSource(3))
	keys := risingKeys()
	oks, overs := 0, 0
	for range 20000 {
		l := anyFacts(r, keys, 40)
		want, wantE := wantOf(l)
		checkOf(t, l, want, wantE)
		checkRight(t, l, wantRight(l))
		if wantE != api.OK {
			overs++
			continue
		}
		oks++
		checkRight(t, want, true)
		k := keys[r.Intn(len(keys))]
		checkGet(t, want, k, amountOf(want, k))
		checkAsked(t, r, want, k)
	}
	if oks < 5000 || overs < 1000 {
		t.Errorf("too few of one kind: %d, %d", oks, overs)
	}
}

// amountOf answers what P9.3 asks of Get.
func amountOf(c Cube, k Key) int64 {
	for _, f := range c {
		if f.Key == k {
			return f.Amount
		}
	}
	return 0
}

// checkAsked asks for sums and facts of parts of a key, each given or not.
func checkAsked(t *testing.T, r *rand.Rand, c Cube, k Key) {
	t.Helper()
	q := k
	for _, part := range []*string{&q.Entity, &q.Account, &q.Flow} {
		if r.Intn(2) == 0 {
			*part = ""
		}
	}
	want, wantE := wantAsked(c, q.Entity, q.Account, q.Flow)
	checkSum(t, c, q.Entity, q.Account, q.Flow, want, wantE)
	checkPick(t, c, q.Entity, k.Mark, wantPick(c, q.Entity, k.Mark))
}

func TestRight(t *testing.T) {
	checkRight(t, nil, true)
	checkRight(t, Cube{}, true)
	checkRight(t, usualCube(), true)
	checkRight(t, usual(), false)
	checkRight(t, reversed(usualCube()), false)
	for _, x := range []struct {
		c    Cube
		want bool
	}{
		{Cube{of("a", 1)}, true},
		{Cube{of("", 1)}, true},
		{Cube{of("a", greatest)}, true},
		{Cube{of("a", least)}, true},
		{Cube{of("a", -1), of("b", 1)}, true},
		{Cube{of("", -1), of("a", 1), of("é", 1)}, true},
		// An amount of 0.
		{Cube{of("a", 0)}, false},
		{Cube{{}}, false},
		{Cube{of("a", 0), of("b", 1)}, false},
		{Cube{of("a", 1), of("b", 0)}, false},
		{Cube{of("a", 1), of("b", 0), of("c", 1)}, false},
		// A key twice.
		{Cube{of("a", 1), of("a", 1)}, false},
		{Cube{of("a", 1), of("a", 2)}, false},
		{Cube{of("a", 2), of("a", -2)}, false},
		{Cube{of("a", 1), of("b", 1), of("b", 1)}, false},
		{Cube{of("a", 1), of("b", 1), of("a", 1)}, false},
		{Cube{of("a", 1), of("a", 1), of("b", 1)}, false},
		// Keys that do not rise.
		{Cube{of("b", 1), of("a", 1)}, false},
		{Cube{of("a", 1), of("c", 1), of("b", 1)}, false},
		{Cube{of("b", 1), of("a", 1), of("c", 1)}, false},
		{Cube{of("c", 1), of("a", 1), of("b", 1)}, false},
	} {
		checkRight(t, x.c, x.want)
	}
	// Each part of a key counts.
	k := key("A", "x", "F", "P", 1)
	for _, behind := range []Key{key("B", "a", "A", "A", 0), key("A", "y", "A", "A", 0), key("A", "x", "G", "A", 0), key("A", "x", "F", "Q", 0), key("A", "x", "F", "P", 2)} {
		checkRight(t, Cube{{k, 1}, {behind, 1}}, true)
		checkRight(t, Cube{{behind, 1}, {k, 1}}, false)
	}
	checkRight(t, Cube{{key("A", "x", "F", "P", math.MinInt), 1}, {key("A", "x", "F", "P", -1), 1}, {k, 1}}, true)
}

func TestRightMany(t *testing.T) {
	checkRight(t, many(1999, 1), true)
	checkRight(t, many(2000, 1), true)
	checkRight(t, many(2001, 1), false)
	checkRight(t, many(5000, 1), false)
	for _, i := range []int{0, 1, 999, 1998, 1999} {
		c := many(2000, 1)
		c[i].Amount = 0
		checkRight(t, c, false)
		c = many(2000, 1)
		c[i], c[(i+1)%2000] = c[(i+1)%2000], c[i]
		checkRight(t, c, false)
		c = many(2000, 1)
		c[i].Key = c[(i+1)%2000].Key
		checkRight(t, c, false)
	}
}

func TestGet(t *testing.T) {
	checkGet(t, nil, Key{}, 0)
	checkGet(t, Cube{}, key("A", "x", "F", "", 0), 0)
	checkGet(t, Cube{of("", 7)}, Key{}, 7)
	checkGet(t, Cube{of("a", greatest)}, Key{Entity: "a"}, greatest)
	checkGet(t, Cube{of("a", least)}, Key{Entity: "a"}, least)
	for _, c := range []Cube{usualCube(), many(2000, 5), many(1, 5), many(2, 5), many(2001, 5)} {
		for _, f := range c {
			checkGet(t, c, f.Key, f.Amount)
		}
	}
	c := Cube{{key("A", "x", "F", "P", 1), 1}, {key("A", "x", "F", "P", 3), 2}, {key("A", "x", "H", "", 0), 3}, {key("C", "x", "F", "P", 1), 4}}
	for _, k := range []Key{
		// Ahead of all.
		{}, key("", "x", "F", "P", 1), key("A", "", "", "", 0), key("A", "x", "F", "P", 0), key("A", "x", "F", "", 3),
		// Between.
		key("A", "x", "F", "P", 2), key("A", "x", "F", "P", 4), key("A", "x", "G", "", 0), key("A", "x", "H", "", 1), key("A", "x", "H", "", -1), key("A", "y", "F", "P", 1), key("B", "x", "F", "P", 1), key("C", "x", "F", "P", 0),
		// Behind all.
		key("C", "x", "F", "P", 2), key("C", "x", "F", "P", math.MaxInt), key("C", "x", "F", "PP", 1), key("D", "x", "F", "P", 1), key("\xff", "", "", "", 0),
	} {
		checkGet(t, c, k, 0)
	}
	// Keys that differ from one that there is in one part alone.
	one := Cube{{key("A", "x", "F", "P", 1), 9}}
	for _, k := range []Key{key("B", "x", "F", "P", 1), key("", "x", "F", "P", 1), key("A", "y", "F", "P", 1), key("A", "", "F", "P", 1), key("A", "x", "G", "P", 1), key("A", "x", "", "P", 1), key("A", "x", "F", "Q", 1), key("A", "x", "F", "", 1), key("A", "x", "F", "P", -1), key("A", "x", "F", "P", 2)} {
		checkGet(t, one, k, 0)
	}
}

// TestGetAll asks for each of all keys of which each other one is there.
func TestGetAll(t *testing.T) {
	var c Cube
	for i, k := range risingKeys() {
		if i%2 == 1 {
			c = append(c, Fact{k, int64(i)})
		}
	}
	for i, k := range risingKeys() {
		checkGet(t, c, k, int64(i*(i%2)))
	}
}

func TestAdd(t *testing.T) {
	c := usualCube()
	checkAdd(t, nil, nil, nil, api.OK)
	checkAdd(t, Cube{}, nil, nil, api.OK)
	checkAdd(t, c, nil, c, api.OK)
	checkAdd(t, nil, c, c, api.OK)
	checkAdd(t, c, Cube{}, c, api.OK)
	checkAdd(t, c, otherSigns(c), nil, api.OK)
	checkAdd(t, otherSigns(c), c, nil, api.OK)
	for _, x := range []struct{ a, b, want Cube }{
		// Of none, of some, of all keys.
		{Cube{of("a", 1), of("c", 2)}, Cube{of("b", 3), of("d", 4)}, Cube{of("a", 1), of("b", 3), of("c", 2), of("d", 4)}},
		{Cube{of("c", 1), of("d", 2)}, Cube{of("a", 3), of("b", 4)}, Cube{of("a", 3), of("b", 4), of("c", 1), of("d", 2)}},
		{Cube{of("a", 1), of("b", 2)}, Cube{of("b", 3), of("c", 4)}, Cube{of("a", 1), of("b", 5), of("c", 4)}},
		{Cube{of("a", 1), of("b", 2)}, Cube{of("a", 3), of("b", 4)}, Cube{of("a", 4), of("b", 6)}},
		{Cube{of("a", 1), of("b", 2)}, Cube{of("a", -1), of("b", 4)}, Cube{of("b", 6)}},
		{Cube{of("a", greatest-1)}, Cube{of("a", 1)}, Cube{of("a", greatest)}},
		{Cube{of("a", greatest)}, Cube{of("a", least)}, Cube{of("a", -1)}},
		{Cube{of("a", 1), of("b", least)}, Cube{of("b", greatest)}, Cube{of("a", 1), of("b", -1)}},
		// Keys that differ in the mark alone.
		{Cube{{key("A", "x", "F", "", Told), 1}}, Cube{{key("A", "x", "F", "", Book), 2}}, Cube{{key("A", "x", "F", "", Told), 1}, {key("A", "x", "F", "", Book), 2}}},
		// What is no cube is put together too.
		{Cube{of("b", 1), of("a", 2), of("b", 3)}, Cube{of("c", 0), of("a", -2)}, Cube{of("b", 4)}},
		{Cube{of("a", 0)}, nil, nil},
		{nil, Cube{of("b", 1), of("a", 2)}, Cube{of("a", 2), of("b", 1)}},
	} {
		checkAdd(t, x.a, x.b, x.want, api.OK)
		checkAdd(t, x.b, x.a, x.want, api.OK)
	}
}

func TestAddErrors(t *testing.T) {
	for _, x := range []struct{ a, b Cube }{
		{Cube{of("a", greatest)}, Cube{of("a", 1)}},
		{Cube{of("a", least)}, Cube{of("a", -1)}},
		{Cube{of("a", 1), of("b", greatest)}, Cube{of("b", greatest), of("c", 1)}},
		{Cube{of("a", greatest), of("b", greatest)}, Cube{of("a", 1), of("b", 1)}},
	} {
		checkAdd(t, x.a, x.b, nil, api.ErrOver)
		checkAdd(t, x.b, x.a, nil, api.ErrOver)
	}
	// a's facts stand ahead of b's: one order does not fit, the other does.
	a, b := Cube{of("a", greatest), of("a", -1)}, Cube{of("a", 1)}
	checkAdd(t, a, b, Cube{of("a", greatest)}, api.OK)
	checkAdd(t, b, a, nil, api.ErrOver)
	// Too many.
	c := Cube(many(2000, 1))
	checkAdd(t, c, c, many(2000, 2), api.OK)
	checkAdd(t, c, otherSigns(c), nil, api.OK)
	checkAdd(t, c[:1000], c[1000:], c, api.OK)
	checkAdd(t, c[1000:], c[:1000], c, api.OK)
	checkAdd(t, c, Cube{of("B", 1)}, nil, api.ErrBig)
	checkAdd(t, Cube{of("B", 1)}, c, nil, api.ErrBig)
	checkAdd(t, c, Cube{of("B", 0)}, c, api.OK)
	checkAdd(t, c, Cube{{c[7].Key, -1}, of("B", 1)}, append(slices.Delete(slices.Clone(c), 7, 8), of("B", 1)), api.OK)
	checkAdd(t, many(2001, 1), nil, nil, api.ErrBig)
	checkAdd(t, nil, many(2001, 1), nil, api.ErrBig)
	// A sum that does not fit counts ahead of that.
	checkAdd(t, c, Cube{{c[1999].Key, greatest}, of("B", 1)}, nil, api.ErrOver)
	checkAdd(t, many(2001, greatest), many(2001, 1)[2000:], nil, api.ErrOver)
}

// TestAddRoom hands over a slice with room behind it, into which nothing may be written.
func TestAddRoom(t *testing.T) {
	row := Cube{of("a", 1), of("b", 2), of("c", 3), of("d", 4)}
	before := slices.Clone(row)
	checkAdd(t, row[:1], row[2:3], Cube{of("a", 1), of("c", 3)}, api.OK)
	checkOf(t, row[:2], Cube{of("a", 1), of("b", 2)}, api.OK)
	checkPick(t, row[:2], "", -1, Cube{of("a", 1), of("b", 2)})
	if !slices.Equal(row, before) {
		t.Errorf("%v became %v", before, row)
	}
}

func TestSum(t *testing.T) {
	c := usualCube()
	for _, x := range []struct {
		entity, account, flow string
		want                  int64
	}{
		// None given.
		{"", "", "", 247},
		// One.
		{"A", "", "", 139},
		{"B", "", "", 108},
		{"", "bank", "", 42},
		{"", "due", "", 107},
		{"", "owe", "", 98},
		{"", "", "F00", 15},
		{"", "", "F20", 6},
		{"", "", "F99", 226},
		// Two.
		{"A", "bank", "", 32},
		{"B", "bank", "", 10},
		{"A", "", "F99", 123},
		{"B", "", "F99", 103},
		{"", "bank", "F00", 15},
		{"", "bank", "F99", 21},
		// All: marks and partners count nothing.
		{"A", "bank", "F20", 6},
		{"A", "due", "F99", 107},
		{"B", "owe", "F99", 98},
		// With no fact that fits.
		{"C", "", "", 0},
		{"", "loan", "", 0},
		{"", "", "F98", 0},
		{"A", "owe", "", 0},
		{"B", "", "F20", 0},
		{"", "owe", "F00", 0},
		{"B", "due", "F99", 0},
		{"a", "", "", 0},
		{"A ", "", "", 0},
		{"", "ban", "", 0},
		{"", "", "F", 0},
		{"bank", "A", "", 0},
		{"", "F99", "bank", 0},
	} {
		checkSum(t, c, x.entity, x.account, x.flow, x.want, api.OK)
	}
	checkSum(t, nil, "", "", "", 0, api.OK)
	checkSum(t, Cube{}, "A", "bank", "F99", 0, api.OK)
	// Facts whose names are empty are among all, and fit nothing that is given.
	empty := Cube{{key("", "", "", "", 0), 1}, {key("", "x", "F", "", 0), 2}, {key("A", "", "F", "", 0), 4}, {key("A", "x", "", "", 0), 8}}
	checkSum(t, empty, "", "", "", 15, api.OK)
	checkSum(t, empty, "A", "", "", 12, api.OK)
	checkSum(t, empty, "", "x", "", 10, api.OK)
	checkSum(t, empty, "", "", "F", 6, api.OK)
	checkSum(t, many(2000, 3), "A", "", "F", 6000, api.OK)
	checkSum(t, many(2001, 3), "", "", "", 6003, api.OK)
}

func TestSumOver(t *testing.T) {
	c := Cube{
		{key("A", "x", "F", "", 0), greatest},
		{key("A", "x", "F", "", 1), 1},
		{key("A", "x", "G", "", 0), -1},
		{key("A", "y", "F", "", 0), -5},
		{key("B", "x", "F", "", 0), least},
		{key("B", "y", "F", "", 0), 3},
		{key("C", "x", "F", "", 0), 5},
	}
	// On the way, in all of these.
	for _, x := range [][3]string{{"", "", ""}, {"A", "", ""}, {"A", "x", ""}, {"A", "x", "F"}, {"A", "", "F"}, {"", "x", ""}, {"", "", "F"}, {"", "x", "F"}} {
		checkSum(t, c, x[0], x[1], x[2], 0, api.ErrOver)
	}
	// What does not fit counts nothing where it isn't asked for.
	checkSum(t, c, "B", "", "", least+3, api.OK)
	checkSum(t, c, "C", "", "", 5, api.OK)
	checkSum(t, c, "", "y", "", -2, api.OK)
	checkSum(t, c, "", "", "G", -1, api.OK)
	// In order: least first, and it fits.
	d := Cube{of("A", least), of("B", greatest), of("C", 1)}
	checkSum(t, d, "", "", "", 0, api.OK)
	checkSum(t, Cube{of("A", greatest), of("B", 1), of("C", least)}, "", "", "", 0, api.ErrOver)
	checkSum(t, Cube{of("A", least), of("B", -1), of("C", greatest)}, "", "", "", 0, api.ErrOver)
	checkSum(t, Cube{of("A", greatest)}, "", "", "", greatest, api.OK)
	checkSum(t, Cube{of("A", least)}, "A", "", "", least, api.OK)
}

func TestPick(t *testing.T) {
	c := Cube{
		{key("", "x", "F", "", 0), 1},
		{key("A", "x", "F", "", -1), 2},
		{key("A", "x", "F", "", Told), 3},
		{key("A", "x", "F", "", Book), 4},
		{key("A", "x", "F", "P", Scaled), 5},
		{key("AA", "x", "F", "", Told), 6},
		{key("B", "A", "F", "A", Struck), 7},
		{key("B", "x", "F", "", Parted), 8},
		{key("B", "y", "F", "", Told), 9},
		{key("B", "y", "F", "", 5), 10},
	}
	for _, x := range []struct {
		entity string
		mark   int
		want   Cube
	}{
		// Any mark.
		{"", -1, c},
		{"", -2, c},
		{"", math.MinInt, c},
		{"A", -1, c[1:5]},
		{"A", math.MinInt, c[1:5]},
		{"AA", -1, c[5:6]},
		{"B", -1, c[6:]},
		// Of all.
		{"", Told, Cube{c[0], c[2], c[5], c[8]}},
		{"", Book, c[3:4]},
		{"", Scaled, c[4:5]},
		{"", Struck, c[6:7]},
		{"", Parted, c[7:8]},
		{"", 5, c[9:]},
		// Both.
		{"A", Told, c[2:3]},
		{"A", Book, c[3:4]},
		{"A", Scaled, c[4:5]},
		{"AA", Told, c[5:6]},
		{"B", Told, c[8:9]},
		{"B", Struck, c[6:7]},
		{"B", Parted, c[7:8]},
		// None.
		{"A", Struck, nil},
		{"AA", Book, nil},
		{"B", Book, nil},
		{"C", -1, nil},
		{"C", Told, nil},
		{"a", -1, nil},
		{"x", -1, nil},
		{"P", -1, nil},
		{"", 6, nil},
		{"", math.MaxInt, nil},
	} {
		checkPick(t, c, x.entity, x.mark, x.want)
	}
	checkPick(t, nil, "", -1, nil)
	checkPick(t, Cube{}, "A", Told, nil)
	checkPick(t, many(2000, 1), "", -1, many(2000, 1))
	checkPick(t, many(2001, 1), "A", -1, many(2001, 1))
	for _, x := range []Cube{c, usualCube()} {
		for _, entity := range []string{"", "A", "AA", "B", "C"} {
			for _, mark := range risingMarks() {
				picked := Pick(x, entity, mark)
				checkPick(t, x, entity, mark, wantPick(x, entity, mark))
				checkRight(t, picked, true)
			}
		}
	}
}

// TestPickTogether asks for what was picked by marks, or by entities, to be the whole again.
func TestPickTogether(t *testing.T) {
	var l []Fact
	for i, k := range risingKeys() {
		k.Mark = i % 5
		l = append(l, Fact{k, int64(i%7 - 3)})
	}
	c, e := Of(l)
	if e != api.OK {
		t.Fatal(e)
	}
	var byMark, byEntity Cube
	for mark := Told; mark <= Parted; mark++ {
		byMark, e = Add(byMark, Pick(c, "", mark))
		if e != api.OK {
			t.Fatal(e)
		}
	}
	if !slices.Equal(byMark, c) {
		t.Errorf("by marks: %s", told(byMark))
	}
	// "" asks for all: the facts of the entity that has no name are not to be picked alone.
	for _, entity := range []string{"é", "A", "AA"} {
		byEntity, e = Add(byEntity, Pick(c, entity, -1))
		if e != api.OK {
			t.Fatal(e)
		}
	}
	if named := slices.DeleteFunc(slices.Clone(c), func(f Fact) bool { return f.Key.Entity == "" }); !slices.Equal(byEntity, named) {
		t.Errorf("by entities: %s", told(byEntity))
	}
}

// orders calls f with l in each order.
func orders(l []Fact, f func(l []Fact)) {
	var order func(done, rest []Fact)
	order = func(done, rest []Fact) {
		if len(rest) == 0 {
			f(done)
			return
		}
		for i := range rest {
			order(append(slices.Clone(done), rest[i]), slices.Concat(rest[:i], rest[i+1:]))
		}
	}
	order(nil, l)
}

// TestAnyOrder puts facts together in each order, and in two and three parts, and at once (P9.6).
func TestAnyOrder(t *testing.T) {
	for _, l := range [][]Fact{
		{of("a", 1), of("a", 2), of("a", 4), of("b", 8), of("b", 16), of("c", 32)},
		{of("a", 5), of("b", 1), of("a", -5), of("b", -1), of("c", 0), of("d", 7)},
		{of("a", 1<<61), of("a", -(1 << 61)), of("a", 1<<61), of("b", least), of("b", greatest), of("", 1)},
		{{key("A", "x", "F", "", 0), 1}, {key("A", "x", "F", "", 1), 2}, {key("A", "x", "F", "P", 0), 3}, {key("A", "x", "G", "", 0), 4}, {key("A", "y", "F", "", 0), 5}, {key("B", "x", "F", "", 0), 6}},
	} {
		want, e := wantOf(l)
		if e != api.OK {
			t.Fatal(told(l), e)
		}
		orders(l, func(l []Fact) {
			checkOf(t, l, want, api.OK)
			for i := range len(l) + 1 {
				checkParts(t, want, l[:i], l[i:])
				checkParts(t, want, l[:i/2], l[i/2:i], l[i:])
			}
		})
	}
}

// checkParts puts together what parts come to, from the first one and from the last one on.
func checkParts(t *testing.T, want Cube, parts ...[]Fact) {
	t.Helper()
	var ahead, behind Cube
	for _, part := range parts {
		c, e := Of(part)
		if e != api.OK {
			t.Fatalf("Of(%s): %d", told(part), e)
		}
		var e1, e2 api.Errno
		ahead, e1 = Add(ahead, c)
		behind, e2 = Add(c, behind)
		if e1 != api.OK || e2 != api.OK {
			t.Fatalf("Add: %d, %d", e1, e2)
		}
	}
	if !slices.Equal(ahead, want) || !slices.Equal(behind, want) {
		t.Errorf("parts %s: %s and %s; want %s", told(parts), told(ahead), told(behind), told(want))
	}
	// Parts that are no cubes are put together just so.
	whole, e := Add(slices.Concat(parts[1:]...), parts[0])
	if e != api.OK || !slices.Equal(whole, want) {
		t.Errorf("parts %s: %s, %d; want %s", told(parts), told(whole), e, told(want))
	}
}

// TestAnyOrderMany does so with many facts, by chance, up to as many keys as may be.
func TestAnyOrderMany(t *testing.T) {
	r := rand.New(rand.NewSource(4))
	keys := risingKeys()
	lists := [][]Fact{usual(), many(2000, 7), append(many(2000, 7), many(2000, -6)...), append(many(2500, 1), many(2500, -1)[500:]...)}
	for range 100 {
		l := anyFacts(r, keys, 200)
		for i := range l {
			l[i].Amount /= 1 << 8 // 200 of them fit, whichever they are
		}
		lists = append(lists, l)
	}
	for _, l := range lists {
		want, e := wantOf(l)
		if e != api.OK {
			t.Fatal(told(l), e)
		}
		for range 5 {
			other := mixed(r, l)
			checkOf(t, other, want, api.OK)
			if len(l) > 2000 {
				continue // a part of it may have too many keys
			}
			i, j := r.Intn(len(l)+1), r.Intn(len(l)+1)
			checkParts(t, want, other[:min(i, j)], other[min(i, j):max(i, j)], other[max(i, j):])
		}
	}
}

// TestSame asks for the same answers each time, and for none that the next call changes.
func TestSame(t *testing.T) {
	first, _ := Of(usual())
	picked := Pick(first, "A", -1)
	added, _ := Add(first, Cube{of("Z", 1)})
	for range 20 {
		checkOf(t, usual(), usualCube(), api.OK)
		checkAdd(t, usualCube(), Cube{of("Z", 1)}, append(usualCube(), of("Z", 1)), api.OK)
		checkPick(t, usualCube(), "A", -1, usualCube()[:6])
	}
	if !slices.Equal(first, usualCube()) || !slices.Equal(picked, usualCube()[:6]) || !slices.Equal(added, append(usualCube(), of("Z", 1))) {
		t.Errorf("answers changed: %s, %s, %s", told(first), told(picked), told(added))
	}
}

// TestNoCubes hands over what is no cube: the calls end, and panic at nothing (R1), and change nothing (R6).
func TestNoCubes(t *testing.T) {
	r := rand.New(rand.NewSource(5))
	keys := risingKeys()
	lists := []Cube{{{}}, {{}, {}, {}}, usual(), reversed(usualCube()), {of("b", 1), of("a", 2), of("b", 3)}, many(5000, 0), reversed(many(5000, 1)), slices.Repeat([]Fact{of("a", greatest)}, 3000)}
	for range 200 {
		lists = append(lists, anyFacts(r, keys, 60))
	}
	for _, c := range lists {
		before := slices.Clone(c)
		for _, k := range []Key{{}, {Entity: "a"}, {Mark: -1}, key("A", "bank", "F99", "", Told), key("\xff", strings.Repeat("é", 1000), "", "", math.MaxInt)} {
			Get(c, k)
			Sum(c, k.Entity, k.Account, k.Flow)
			Pick(c, k.Entity, k.Mark)
		}
		checkRight(t, c, wantRight(c))
		want, wantE := wantOf(c)
		checkOf(t, c, want, wantE)
		checkAdd(t, c, nil, want, wantE)
		if !slices.Equal(c, before) {
			t.Errorf("%s became %s", told(before), told(c))
		}
	}
}

// readFacts answers facts of any bytes, six a fact: one for each part of its
// key, and one for its amount.
func readFacts(b []byte) []Fact {
	texts := risingTexts()
	marks := risingMarks()
	amounts := []int64{0, 1, -1, 2, -2, 5, -5, 1 << 62, -(1 << 62), greatest, greatest - 1, least, least + 1}
	text := func(x byte) string { return texts[int(x)%len(texts)] }
	var l []Fact
	for ; len(b) >= 6; b = b[6:] {
		l = append(l, Fact{key(text(b[0]), text(b[1]), text(b[2]), text(b[3]), marks[int(b[4])%len(marks)]), amounts[int(b[5])%len(amounts)]})
	}
	return l
}

// FuzzOf looks for facts that are put together wrongly.
func FuzzOf(f *testing.F) {
	f.Add([]byte{})
	f.Add([]byte{1, 2, 3, 4, 5, 6})
	f.Add([]byte{7, 7, 7, 0, 4, 9, 7, 7, 7, 0, 4, 1, 7, 7, 7, 0, 4, 2})
	f.Add([]byte{9, 0, 0, 0, 4, 1, 8, 0, 0, 0, 4, 3, 9, 0, 0, 0, 4, 2})
	f.Fuzz(func(t *testing.T, b []byte) {
		l := readFacts(b)
		want, wantE := wantOf(l)
		checkOf(t, l, want, wantE)
		checkRight(t, l, wantRight(l))
		half := len(l) / 2
		checkAdd(t, l[:half], l[half:], want, wantE)
		if wantE != api.OK || len(l) == 0 {
			return
		}
		k := l[half].Key
		checkGet(t, want, k, amountOf(want, k))
		sum, sumE := wantAsked(want, k.Entity, k.Account, k.Flow)
		checkSum(t, want, k.Entity, k.Account, k.Flow, sum, sumE)
		checkPick(t, want, k.Entity, k.Mark, wantPick(want, k.Entity, k.Mark))
	})
}

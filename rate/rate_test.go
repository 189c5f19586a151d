package rate

import (
	"math"
	"math/big"
	"math/rand"
	"slices"
	"strings"
	"testing"

	"comptroller/api"
	"comptroller/wide"
)

const (
	least    = math.MinInt64
	greatest = math.MaxInt64
	billion  = 1_000_000_000
)

// edges are numbers around each bound that a rate or an amount has.
func edges() []int64 {
	return []int64{
		0, 1, -1, 2, -2, 3, 4, 5, 6, 7, 10, 12, -12, 9999, 10000,
		billion - 2, billion - 1, billion, billion + 1, billion + 2, -billion,
		2*billion - 2, 2 * billion, 2*billion + 2, 7 * billion, billion * billion, billion*billion + billion,
		1 << 32, 1 << 62, greatest - 1, greatest, least, least + 1,
	}
}

// eachTwo calls f with all small numbers, all edges, and numbers of all lengths.
func eachTwo(f func(a, b int64)) {
	var small []int64
	for n := range int64(60) {
		small = append(small, n-5)
	}
	for _, l := range [][]int64{edges(), small} {
		for _, a := range l {
			for _, b := range l {
				f(a, b)
			}
		}
	}
	// A fixed seed: the tests are to be the same each time.
	r := rand.New(rand.NewSource(1))
	for range 20000 {
		f(anyLength(r), anyLength(r))
		// By chance two numbers have little in common, so some is put into them.
		common := 1 + r.Int63n(1<<20)
		f(common*(1+r.Int63n(2*billion)), common*(1+r.Int63n(2*billion)))
	}
}

func anyLength(r *rand.Rand) int64 {
	return int64(r.Uint64()) >> r.Intn(64)
}

// rates are rates at the edges, and some by chance.
func rates() []Rate {
	l := []Rate{
		{1, 1}, {1, 2}, {2, 1}, {3, 2}, {2, 3}, {7, 10000}, {10000, 7},
		{billion, 1}, {1, billion}, {billion - 1, billion}, {billion, billion - 1}, {billion, 7}, {7, billion},
	}
	r := rand.New(rand.NewSource(2))
	for len(l) < 60 {
		x := Rate{1 + r.Int63n(billion)>>r.Intn(30), 1 + r.Int63n(billion)>>r.Intn(30)}
		if commonOf(x.Num, x.Den) == 1 {
			l = append(l, x)
		}
	}
	return l
}

// noRates are pairs of numbers that are no rates, each for one reason alone where that can be.
func noRates() []Rate {
	return []Rate{
		{0, 0}, {0, 1}, {1, 0}, {-1, 1}, {1, -1}, {-1, -1}, {-3, 2}, {3, -2},
		{2, 4}, {2, 2}, {6, 4}, {billion, billion}, {billion, 2}, {5, billion}, {3, 999999999},
		{billion + 1, 1}, {1, billion + 1}, {billion + 1, billion}, {billion, billion + 1}, {billion + 1, billion + 2},
		{greatest, 1}, {1, greatest}, {least, 1}, {1, least}, {least, least}, {greatest, greatest}, {least, greatest},
	}
}

// commonOf is the greatest number that divides both, found by numbers of any size; both are above 0.
func commonOf(a, b int64) int64 {
	return new(big.Int).GCD(nil, nil, big.NewInt(a), big.NewInt(b)).Int64()
}

func checkMake(t *testing.T, num, den int64, want Rate, wantE api.Errno) {
	t.Helper()
	if r, e := Make(num, den); r != want || e != wantE {
		t.Errorf("Make(%d, %d) = %v, %d; want %v, %d", num, den, r, e, want, wantE)
	}
}

func checkParse(t *testing.T, s string, want Rate, wantE api.Errno) {
	t.Helper()
	if r, e := Parse(s); r != want || e != wantE {
		t.Errorf("Parse(%.60q) = %v, %d; want %v, %d", s, r, e, want, wantE)
	}
}

func checkApply(t *testing.T, r Rate, a, want int64, wantE api.Errno) {
	t.Helper()
	if n, e := Apply(r, a); n != want || e != wantE {
		t.Errorf("Apply(%v, %d) = %d, %d; want %d, %d", r, a, n, e, want, wantE)
	}
}

func checkChain(t *testing.T, l []int, want int, wantE api.Errno) {
	t.Helper()
	if n, e := Chain(l); n != want || e != wantE {
		t.Errorf("Chain(%v) = %d, %d; want %d, %d", l, n, e, want, wantE)
	}
}

func TestRight(t *testing.T) {
	for _, r := range rates() {
		if !Right(r) {
			t.Errorf("%v is not Right", r)
		}
	}
	for _, r := range noRates() {
		if Right(r) {
			t.Errorf("%v is Right", r)
		}
	}
}

func TestRightOfAll(t *testing.T) {
	eachTwo(func(num, den int64) {
		want := num >= 1 && num <= billion && den >= 1 && den <= billion && commonOf(num, den) == 1
		if is := Right(Rate{num, den}); is != want {
			t.Errorf("Right(%d, %d) = %v", num, den, is)
		}
	})
}

func TestMake(t *testing.T) {
	for _, x := range []struct {
		num, den int64
		want     Rate
		e        api.Errno
	}{
		{1, 1, Rate{1, 1}, api.OK},
		{3, 2, Rate{3, 2}, api.OK},
		{6, 4, Rate{3, 2}, api.OK},
		{4, 6, Rate{2, 3}, api.OK},
		{12, 4, Rate{3, 1}, api.OK},
		{4, 12, Rate{1, 3}, api.OK},
		// Below 1, on either side, whatever the other one is.
		{0, 1, Rate{}, api.ErrArg},
		{1, 0, Rate{}, api.ErrArg},
		{0, 0, Rate{}, api.ErrArg},
		{-1, 2, Rate{}, api.ErrArg},
		{1, -2, Rate{}, api.ErrArg},
		{-1, -2, Rate{}, api.ErrArg},
		{least, least, Rate{}, api.ErrArg},
		{least, greatest, Rate{}, api.ErrArg},
		{greatest, 0, Rate{}, api.ErrArg},
		{0, billion + 1, Rate{}, api.ErrArg},
		// 10^9, and one more, with nothing to divide by.
		{billion, 1, Rate{billion, 1}, api.OK},
		{1, billion, Rate{1, billion}, api.OK},
		{billion, 7, Rate{billion, 7}, api.OK},
		{billion - 1, billion, Rate{billion - 1, billion}, api.OK},
		{billion + 1, 1, Rate{}, api.ErrBig},
		{1, billion + 1, Rate{}, api.ErrBig},
		{billion + 1, billion, Rate{}, api.ErrBig},
		{billion, billion + 1, Rate{}, api.ErrBig},
		// More than 10^9 ahead of the division, and 10^9 or one more behind it.
		{billion + 1, billion + 1, Rate{1, 1}, api.OK},
		{billion + 2, 2, Rate{billion/2 + 1, 1}, api.OK},
		{2 * billion, 2, Rate{billion, 1}, api.OK},
		{2, 2 * billion, Rate{1, billion}, api.OK},
		{2*billion + 2, 2, Rate{}, api.ErrBig},
		{2, 2*billion + 2, Rate{}, api.ErrBig},
		{7 * billion, 49, Rate{billion, 7}, api.OK},
		{billion * billion, billion, Rate{billion, 1}, api.OK},
		{billion, billion * billion, Rate{1, billion}, api.OK},
		{billion * (billion + 1), billion, Rate{}, api.ErrBig},
		{billion, billion * (billion + 1), Rate{}, api.ErrBig},
		{greatest, greatest, Rate{1, 1}, api.OK},
		{greatest, greatest / 7, Rate{7, 1}, api.OK},
		{greatest, 1, Rate{}, api.ErrBig},
		{1, greatest, Rate{}, api.ErrBig},
		{greatest, greatest - 1, Rate{}, api.ErrBig},
	} {
		checkMake(t, x.num, x.den, x.want, x.e)
	}
}

func TestMakeOfAll(t *testing.T) {
	made := 0
	eachTwo(func(num, den int64) {
		if num < 1 || den < 1 {
			checkMake(t, num, den, Rate{}, api.ErrArg)
			return
		}
		by := commonOf(num, den)
		want := Rate{num / by, den / by}
		if want.Num > billion || want.Den > billion {
			checkMake(t, num, den, Rate{}, api.ErrBig)
			return
		}
		made++
		checkMake(t, num, den, want, api.OK)
		if !Right(want) {
			t.Errorf("what Make(%d, %d) answers is not Right", num, den)
		}
	})
	if made < 5000 {
		t.Errorf("only %d rates were made", made)
	}
}

func TestParse(t *testing.T) {
	for s, want := range map[string]Rate{
		"1":                     {1, 1},
		"1/1":                   {1, 1},
		"7":                     {7, 1},
		"3/2":                   {3, 2},
		"6/4":                   {3, 2},
		"4/6":                   {2, 3},
		"10/5":                  {2, 1},
		"1000000000":            {billion, 1},
		"1000000000/1":          {billion, 1},
		"1/1000000000":          {1, billion},
		"7/1000000000":          {7, billion},
		"1000000001/1000000001": {1, 1},
		"2000000000/2":          {billion, 1},
		"2/2000000000":          {1, billion},
		"9223372036854775807/9223372036854775807": {1, 1},
	} {
		checkParse(t, s, want, api.OK)
	}
}

func TestParseNoRate(t *testing.T) {
	tooBig := strings.Repeat("9", 20)
	for _, s := range []string{
		// Nothing at all, ahead of a slash, or behind it.
		"", "/", "//", "1/", "/1", "6/", "/4", tooBig + "/", "/" + tooBig,
		// More than one slash: the rest is behind the first one.
		"1/2/3", "1//2", "/1/2", "1/2/", "1/1/1", "1/" + tooBig + "/1",
		// No numbers as amounts have them, on either side.
		"x", "x/1", "1/x", "x/x", "01", "01/2", "1/02", "-0", "-0/1", "1/-0", "+1", "1/+1", "00", "0/00",
		" 1", "1 ", " 1/2", "1 /2", "1/ 2", "1/2 ", "1.5", "1,5", "1e3", "1\\2", "1:2", "1\x002", "1/2\n", "-", "-/1", "1/-",
		"\u0661", "1\u22152", "\xff", "1/\xff",
		// The form counts ahead of the size, whichever comes first, and of what is below 1.
		tooBig + "/x", "x/" + tooBig, "-" + tooBig + "/x", "x/-" + tooBig, "0/x", "x/0", "1000000001/x", "x/1000000001",
		"0" + tooBig, "1/0" + tooBig,
	} {
		checkParse(t, s, Rate{}, api.ErrForm)
	}
	for _, s := range []string{
		// It does not fit, on either side, or on both.
		tooBig, "-" + tooBig, tooBig + "/1", "1/" + tooBig, "-" + tooBig + "/1", "1/-" + tooBig, tooBig + "/" + tooBig,
		"9223372036854775808", "-9223372036854775809", "9223372036854775808/1", "1/9223372036854775808",
		"1/-9223372036854775809", "18446744073709551617", "18446744073709551617/18446744073709551617",
		strings.Repeat("9", 20000), "1/" + strings.Repeat("9", 20000),
		// The size counts ahead of what is below 1.
		"0/" + tooBig, tooBig + "/0", "-1/" + tooBig, tooBig + "/-1",
		// It fits, but is too big for a rate.
		"1000000001", "1000000001/1", "1/1000000001", "1000000001/1000000000", "2000000002/2", "2/2000000002",
		"9223372036854775807", "1/9223372036854775807",
	} {
		checkParse(t, s, Rate{}, api.ErrBig)
	}
	for _, s := range []string{
		"0", "-1", "0/1", "1/0", "0/0", "-1/2", "1/-2", "-1/-2", "-6/4", "0/1000000001", "1000000001/0",
		"-9223372036854775808", "1/-9223372036854775808", "-9223372036854775808/9223372036854775807",
	} {
		checkParse(t, s, Rate{}, api.ErrArg)
	}
}

// wantParse answers what P3.2 asks of Parse, by numbers of any size.
func wantParse(s string) (Rate, api.Errno) {
	sides := strings.SplitN(s, "/", 2)
	if len(sides) == 1 {
		sides = append(sides, "1")
	}
	num, isNum := new(big.Int).SetString(sides[0], 10)
	den, isDen := new(big.Int).SetString(sides[1], 10)
	if !isNum || !isDen || num.String() != sides[0] || den.String() != sides[1] {
		return Rate{}, api.ErrForm
	}
	if !num.IsInt64() || !den.IsInt64() {
		return Rate{}, api.ErrBig
	}
	if num.Sign() < 1 || den.Sign() < 1 {
		return Rate{}, api.ErrArg
	}
	lowest := new(big.Rat).SetFrac(num, den)
	limit := big.NewInt(billion)
	if lowest.Num().Cmp(limit) > 0 || lowest.Denom().Cmp(limit) > 0 {
		return Rate{}, api.ErrBig
	}
	return Rate{lowest.Num().Int64(), lowest.Denom().Int64()}, api.OK
}

// TestParseShortTexts goes through all texts of up to 6 of these bytes.
func TestParseShortTexts(t *testing.T) {
	texts := []string{""}
	for length := range 7 {
		var longer []string
		for _, s := range texts {
			want, wantE := wantParse(s)
			checkParse(t, s, want, wantE)
			for _, b := range "/-0126x" {
				longer = append(longer, s+string(b))
			}
		}
		if len(texts) != int(math.Pow(7, float64(length))) {
			t.Fatalf("%d texts of %d bytes", len(texts), length)
		}
		texts = longer
	}
}

func TestParseOfAll(t *testing.T) {
	eachTwo(func(num, den int64) {
		s := big.NewInt(num).String() + "/" + big.NewInt(den).String()
		want, wantE := wantParse(s)
		checkParse(t, s, want, wantE)
	})
}

func TestPrint(t *testing.T) {
	for _, x := range []struct {
		r    Rate
		want string
	}{
		{Rate{1, 1}, "1"},
		{Rate{7, 1}, "7"},
		{Rate{1, 7}, "1/7"},
		{Rate{3, 2}, "3/2"},
		{Rate{10000, 9999}, "10000/9999"},
		{Rate{billion, 1}, "1000000000"},
		{Rate{1, billion}, "1/1000000000"},
		{Rate{billion - 1, billion}, "999999999/1000000000"},
	} {
		if s := Print(x.r); s != x.want {
			t.Errorf("Print(%v) = %q; want %q", x.r, s, x.want)
		}
	}
	for _, r := range noRates() {
		if s := Print(r); s != "" {
			t.Errorf("Print(%v) = %q; want nothing", r, s)
		}
	}
}

func TestBackFromTexts(t *testing.T) {
	for _, r := range rates() {
		checkParse(t, Print(r), r, api.OK)
	}
	eachTwo(func(num, den int64) {
		if r, e := Make(num, den); e == api.OK {
			checkParse(t, Print(r), r, api.OK)
		}
	})
}

func TestApply(t *testing.T) {
	for _, x := range []struct {
		r       Rate
		a, want int64
		e       api.Errno
	}{
		{Rate{1, 1}, 0, 0, api.OK},
		{Rate{1, 1}, -12, -12, api.OK},
		{Rate{2, 1}, 21, 42, api.OK},
		{Rate{3, 2}, 1000, 1500, api.OK},
		{Rate{1, 3}, 10, 3, api.OK},
		{Rate{1, 3}, 11, 4, api.OK},
		{Rate{1, 3}, -10, -3, api.OK},
		{Rate{1, 3}, -11, -4, api.OK},
		// Halves, which go away from 0.
		{Rate{1, 2}, 1, 1, api.OK},
		{Rate{1, 2}, -1, -1, api.OK},
		{Rate{1, 2}, 5, 3, api.OK},
		{Rate{1, 2}, -5, -3, api.OK},
		{Rate{3, 2}, 3, 5, api.OK},
		{Rate{3, 2}, -3, -5, api.OK},
		{Rate{1, billion}, billion / 2, 1, api.OK},
		{Rate{1, billion}, -billion / 2, -1, api.OK},
		{Rate{1, billion}, billion/2 - 1, 0, api.OK},
		{Rate{1, billion}, -billion/2 + 1, 0, api.OK},
		// What just fits, and what just does not.
		{Rate{1, 1}, greatest, greatest, api.OK},
		{Rate{1, 1}, least, least, api.OK},
		{Rate{2, 1}, 1<<62 - 1, greatest - 1, api.OK},
		{Rate{2, 1}, 1 << 62, 0, api.ErrOver},
		{Rate{2, 1}, -(1 << 62), least, api.OK},
		{Rate{2, 1}, -(1 << 62) - 1, 0, api.ErrOver},
		{Rate{3, 2}, 6148914691236517204, greatest - 1, api.OK},
		{Rate{3, 2}, 6148914691236517205, 0, api.ErrOver}, // 2^63 less a half
		{Rate{3, 2}, -6148914691236517205, least, api.OK},
		{Rate{3, 2}, -6148914691236517206, 0, api.ErrOver},
		{Rate{billion, 1}, 9223372036, 9223372036000000000, api.OK},
		{Rate{billion, 1}, 9223372037, 0, api.ErrOver},
		{Rate{billion, 1}, -9223372036, -9223372036000000000, api.OK},
		{Rate{billion, 1}, -9223372037, 0, api.ErrOver},
		{Rate{billion, billion - 1}, greatest, 0, api.ErrOver},
		{Rate{billion, billion - 1}, least, 0, api.ErrOver},
		{Rate{billion, 1}, greatest, 0, api.ErrOver},
		{Rate{billion, 1}, least, 0, api.ErrOver},
		// The product takes more than 64 bits, but the result fits.
		{Rate{billion - 1, billion}, greatest, 9223372027631403770, api.OK},
		{Rate{billion - 1, billion}, least, -9223372027631403771, api.OK},
	} {
		checkApply(t, x.r, x.a, x.want, x.e)
	}
}

func TestApplyIsMulDiv(t *testing.T) {
	r := rand.New(rand.NewSource(3))
	for _, x := range rates() {
		amounts := edges()
		for range 200 {
			amounts = append(amounts, anyLength(r))
		}
		for _, a := range amounts {
			want, wantE := wide.MulDiv(a, x.Num, x.Den)
			checkApply(t, x, a, want, wantE)
		}
	}
}

func TestApplyOfNoRate(t *testing.T) {
	for _, r := range noRates() {
		for _, a := range edges() {
			checkApply(t, r, a, 0, api.ErrArg)
		}
	}
}

func TestCmp(t *testing.T) {
	for _, x := range []struct {
		a, b Rate
		want int
	}{
		{Rate{1, 1}, Rate{1, 1}, 0},
		{Rate{3, 2}, Rate{5, 3}, -1},
		{Rate{5, 3}, Rate{3, 2}, 1},
		{Rate{1, 2}, Rate{1, 3}, 1},
		{Rate{1, 2}, Rate{2, 1}, -1},
		{Rate{2, 1}, Rate{3, 1}, -1},
		{Rate{billion, 1}, Rate{1, billion}, 1},
		{Rate{billion - 1, billion}, Rate{billion - 2, billion - 1}, 1},
		{Rate{billion, billion - 1}, Rate{billion - 1, billion - 2}, -1},
		// No rates: it is asked of the products alone.
		{Rate{2, 4}, Rate{1, 2}, 0},
		{Rate{0, 0}, Rate{3, 2}, 0},
		{Rate{1, 0}, Rate{3, 2}, 1},
		{Rate{-1, 2}, Rate{1, 2}, -1},
		{Rate{1, -2}, Rate{1, 2}, 1}, // 2 and -2
		{Rate{greatest, 1}, Rate{1, greatest}, 1},
		{Rate{least, 1}, Rate{1, least}, 1},
		{Rate{greatest, least}, Rate{least, greatest}, -1},
		{Rate{greatest, least}, Rate{greatest, least}, 0},
	} {
		if n := Cmp(x.a, x.b); n != x.want {
			t.Errorf("Cmp(%v, %v) = %d; want %d", x.a, x.b, n, x.want)
		}
	}
}

// TestCmpOrders holds rates against fractions of any size, and no rates against their products.
func TestCmpOrders(t *testing.T) {
	for _, a := range rates() {
		for _, b := range rates() {
			want := big.NewRat(a.Num, a.Den).Cmp(big.NewRat(b.Num, b.Den))
			if n := Cmp(a, b); n != want {
				t.Errorf("Cmp(%v, %v) = %d; want %d", a, b, n, want)
			}
		}
	}
	all := append(rates(), noRates()...)
	for _, a := range all {
		for _, b := range all {
			left := new(big.Int).Mul(big.NewInt(a.Num), big.NewInt(b.Den))
			right := new(big.Int).Mul(big.NewInt(b.Num), big.NewInt(a.Den))
			if n := Cmp(a, b); n != left.Cmp(right) {
				t.Errorf("Cmp(%v, %v) = %d; want %d", a, b, n, left.Cmp(right))
			}
		}
	}
}

func TestChain(t *testing.T) {
	for _, x := range []struct {
		l    []int
		want int
		e    api.Errno
	}{
		// Of nothing, of one, of Whole.
		{nil, 10000, api.OK},
		{[]int{}, 10000, api.OK},
		{[]int{10000}, 10000, api.OK},
		{[]int{10000, 10000, 10000}, 10000, api.OK},
		{[]int{1}, 1, api.OK},
		{[]int{3333}, 3333, api.OK},
		{[]int{9999}, 9999, api.OK},
		{[]int{10000, 7777, 10000}, 7777, api.OK},
		// Of several.
		{[]int{5000, 5000}, 2500, api.OK},
		{[]int{8000, 7500, 5000}, 3000, api.OK},
		{[]int{5000, 5000, 5000, 5000}, 625, api.OK},
		{[]int{100, 100}, 1, api.OK},
		{[]int{2500, 4}, 1, api.OK},
		// Of 0.
		{[]int{0}, 0, api.OK},
		{[]int{0, 0}, 0, api.OK},
		{[]int{0, 3333}, 0, api.OK},
		{[]int{3333, 0}, 0, api.OK},
		{[]int{0, 3333, 3333}, 0, api.OK},
		{[]int{10000, 0, 10000}, 0, api.OK},
		// No whole number of parts, also if it would be one again in the end.
		{[]int{3333, 3333}, 0, api.ErrInexact},
		{[]int{1, 1}, 0, api.ErrInexact},
		{[]int{1, 9999}, 0, api.ErrInexact},
		{[]int{9999, 9999}, 0, api.ErrInexact},
		{[]int{5000, 5000, 5000, 5000, 5000}, 0, api.ErrInexact},
		{[]int{3333, 3333, 0}, 0, api.ErrInexact},
		{[]int{625, 8, 2000}, 0, api.ErrInexact},
		{[]int{625, 2000, 8}, 0, api.ErrInexact},
		{[]int{5000, 1, 2}, 0, api.ErrInexact},
		{[]int{5000, 2, 1}, 0, api.ErrInexact},
		{[]int{5000, 2, 10000}, 1, api.OK},
		{[]int{1250, 100, 8000}, 0, api.ErrInexact}, // 12.5, and 10
		{[]int{1250, 8000, 100}, 10, api.OK},
	} {
		before := slices.Clone(x.l)
		checkChain(t, x.l, x.want, x.e)
		if !slices.Equal(x.l, before) {
			t.Errorf("Chain changed %v to %v", before, x.l)
		}
	}
}

func TestChainWrongShare(t *testing.T) {
	chains := [][]int{nil, {10000}, {0}, {5000, 5000}, {0, 3333}, {3333, 3333}, {3333, 3333, 3333}, {1, 2, 3, 4}}
	for _, wrong := range []int{-1, 10001, -10000, 20000, math.MinInt, math.MaxInt, 1 << 32, -(1 << 32)} {
		for _, l := range chains {
			for at := range len(l) + 1 {
				checkChain(t, slices.Insert(slices.Clone(l), at, wrong), 0, api.ErrArg)
			}
		}
	}
}

func TestLongChains(t *testing.T) {
	whole := slices.Repeat([]int{api.Whole}, 100000)
	checkChain(t, whole, api.Whole, api.OK)
	checkChain(t, append(slices.Clone(whole), 7777), 7777, api.OK)
	if n, e := Chain(append(slices.Clone(whole), -1)); n != 0 || e != api.ErrArg {
		t.Errorf("a long chain with -1 in the end: %d, %d", n, e)
	}
	if n, e := Chain(slices.Repeat([]int{5000}, 100000)); n != 0 || e != api.ErrInexact {
		t.Errorf("a long chain of halves: %d, %d", n, e)
	}
}

// shares have much in common with Whole, so that many of their chains are exact.
func shares() []int {
	return []int{0, 1, 2, 16, 100, 125, 625, 1250, 2000, 2500, 3333, 5000, 6000, 7500, 8000, 9375, 9999, 10000}
}

// eachChain calls f with all chains of up to 3 of these shares, and some longer ones.
func eachChain(f func(l []int)) {
	f(nil)
	for _, a := range shares() {
		f([]int{a})
		for _, b := range shares() {
			f([]int{a, b})
			for _, c := range shares() {
				f([]int{a, b, c})
			}
		}
	}
	r := rand.New(rand.NewSource(4))
	all := shares()
	for range 20000 {
		l := make([]int, 4+r.Intn(4))
		for i := range l {
			l[i] = all[r.Intn(len(all))]
		}
		f(l)
	}
}

// TestChainOfAll holds chains against the whole product: what there is on the
// way is the product so far, by Whole once less than there are shares in it.
func TestChainOfAll(t *testing.T) {
	eachChain(func(l []int) {
		product, by := big.NewInt(api.Whole), big.NewInt(1)
		for _, share := range l {
			product.Mul(product, big.NewInt(int64(share)))
			by.Mul(by, big.NewInt(api.Whole))
			if new(big.Int).Rem(product, by).Sign() != 0 {
				checkChain(t, l, 0, api.ErrInexact)
				return
			}
		}
		checkChain(t, l, int(product.Quo(product, by).Int64()), api.OK)
	})
}

func TestChainIsNoMoreThanItsShares(t *testing.T) {
	exact := 0
	eachChain(func(l []int) {
		n, e := Chain(l)
		if e != api.OK {
			return
		}
		exact++
		for _, share := range l {
			if n > share {
				t.Errorf("Chain(%v) = %d is more than %d", l, n, share)
			}
		}
	})
	if exact < 2000 {
		t.Errorf("only %d chains were exact", exact)
	}
}

func TestWholeCountsNothing(t *testing.T) {
	eachChain(func(l []int) {
		n, e := Chain(l)
		for at := range len(l) + 1 {
			checkChain(t, slices.Insert(slices.Clone(l), at, api.Whole), n, e)
		}
	})
}

// TestChainOfChains cuts chains into three parts, each of which may be nothing.
func TestChainOfChains(t *testing.T) {
	held := 0
	eachChain(func(l []int) {
		n, e := Chain(l)
		if e != api.OK {
			return
		}
		for i := range len(l) + 1 {
			for j := i; j <= len(l); j++ {
				var parts []int
				for _, part := range [][]int{l[:i], l[i:j], l[j:]} {
					if share, e := Chain(part); e == api.OK {
						parts = append(parts, share)
					}
				}
				if len(parts) < 3 {
					continue
				}
				if of, e := Chain(parts); e == api.OK {
					held++
					if of != n {
						t.Errorf("Chain(%v) = %d, but cut at %d and %d it is %d", l, n, i, j, of)
					}
				}
			}
		}
	})
	if held < 10000 {
		t.Errorf("only %d chains were held against their parts", held)
	}
}

// FuzzParse holds Parse against numbers of any size, and what it takes against its text.
func FuzzParse(f *testing.F) {
	for _, s := range []string{"", "1", "6/4", "1/2/3", "/", "1/", "0/1", "1000000001", "2000000000/2", "99999999999999999999/x"} {
		f.Add(s)
	}
	f.Fuzz(func(t *testing.T, s string) {
		want, wantE := wantParse(s)
		checkParse(t, s, want, wantE)
		if wantE == api.OK {
			checkParse(t, Print(want), want, api.OK)
		}
	})
}

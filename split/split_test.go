package split

import (
	"math"
	"math/big"
	"math/rand"
	"slices"
	"testing"

	"comptroller/api"
	"comptroller/wide"
)

const (
	least    = math.MinInt64
	greatest = math.MaxInt64
)

// amounts are those around 0 and at both ends of 64 bits.
func amounts() []int64 {
	return []int64{
		0, 1, -1, 2, -2, 3, -3, 4, -4, 5, -5, 7, -7, 10, -10, 11, -11, 99, -99, 100, -100, 101, -101,
		4999, 5000, 5001, -4999, -5000, -5001, 9999, -9999, 10000, -10000, 15000, -15000, 1 << 32, -(1 << 32),
		1 << 62, 1<<62 + 1, -(1 << 62), -(1 << 62) - 1, greatest - 2, greatest - 1, greatest, least, least + 1, least + 2,
	}
}

// weightLists are such that amounts can be split by them.
func weightLists() [][]int64 {
	descending := make([]int64, api.Weights)
	for i := range descending {
		descending[i] = int64(api.Weights - i)
	}
	return [][]int64{
		{1}, {5}, {greatest}, {1, 1}, {1, 2}, {2, 1}, {1, 1, 1}, {3, 3, 3}, {1, 2, 3}, {3, 2, 1}, {2, 3, 5, 7},
		{0, 1}, {1, 0}, {0, 1, 0}, {0, 1, 2, 0}, {0, 0, 7}, {7, 0, 0}, {1, 0, 1, 0, 1},
		{1, 0, 0, greatest - 1}, {greatest, 0}, {0, greatest}, {greatest - 1, 1}, {1, greatest - 1},
		{1 << 61, 1 << 61}, {1 << 62, 1<<62 - 1}, {1<<62 - 1, 1 << 62}, {1<<62 - 1, 1, 1<<62 - 1},
		{1 << 62, 1 << 61, 1 << 60}, {greatest / 3, greatest / 3, greatest / 3}, {greatest / 7, greatest/7*5 - 1, greatest / 7},
		slices.Repeat([]int64{1}, api.Weights), slices.Repeat([]int64{greatest / api.Weights}, api.Weights),
		slices.Repeat([]int64{0, 3, 1, 0, 3}, api.Weights/5), descending,
	}
}

// eachSplit calls f with all amounts by all weights of the lists above, with
// small ones of all kinds, and with some by chance.
func eachSplit(f func(a int64, weights []int64)) {
	for _, weights := range weightLists() {
		for _, a := range amounts() {
			f(a, weights)
		}
	}
	eachSmallSplit(f)
	// A fixed seed: the tests are to be the same each time.
	r := rand.New(rand.NewSource(1))
	for range 20000 {
		f(anyAmount(r), anyWeights(r))
	}
}

// eachSmallSplit calls f with all weights of 0 to 4, up to four of them, not 0 together.
func eachSmallSplit(f func(a int64, weights []int64)) {
	for length := 1; length <= 4; length++ {
		for number := 1; number < int(math.Pow(5, float64(length))); number++ {
			weights := make([]int64, length)
			rest := number
			for i := range weights {
				weights[i] = int64(rest % 5)
				rest /= 5
			}
			for a := int64(-9); a <= 9; a++ {
				f(a, weights)
			}
		}
	}
}

func anyAmount(r *rand.Rand) int64 {
	return int64(r.Uint64()) >> r.Intn(64)
}

// anyWeights answers weights of much the same size, so that most of them get
// parts; they are not 0 together, and their sum fits.
func anyWeights(r *rand.Rand) []int64 {
	length := 1 + r.Intn(8)
	if r.Intn(20) == 0 {
		length = 1 + r.Intn(api.Weights)
	}
	bound := 1 + (greatest/int64(length)-1)>>r.Intn(63)
	weights := make([]int64, length)
	for i := range weights {
		if r.Intn(5) > 0 {
			weights[i] = r.Int63n(bound)
		}
	}
	weights[r.Intn(length)] = bound
	return weights
}

// wantBy answers what P4.1 asks of By, as its words say it, by numbers of any size.
func wantBy(a int64, weights []int64) ([]int64, api.Errno) {
	if len(weights) > 100 {
		return nil, api.ErrBig
	}
	sum := new(big.Int)
	for _, weight := range weights {
		if weight < 0 {
			return nil, api.ErrArg
		}
		sum.Add(sum, big.NewInt(weight))
	}
	if !sum.IsInt64() {
		return nil, api.ErrOver
	}
	if sum.Sign() == 0 {
		return nil, api.ErrZero
	}
	parts := make([]int64, len(weights))
	rests := make([]*big.Int, len(weights))
	all := new(big.Int)
	for i, weight := range weights {
		product := new(big.Int).Mul(big.NewInt(a), big.NewInt(weight))
		part, rest := new(big.Int).QuoRem(product, sum, new(big.Int))
		parts[i], rests[i] = part.Int64(), rest.Abs(rest)
		all.Add(all, part)
	}
	one := int64(big.NewInt(a).Sign())
	for all.Cmp(big.NewInt(a)) != 0 {
		to := -1
		for i, rest := range rests {
			if rest != nil && (to < 0 || rest.Cmp(rests[to]) > 0) {
				to = i
			}
		}
		parts[to] += one
		rests[to] = nil
		all.Add(all, big.NewInt(one))
	}
	return parts, api.OK
}

func checkBy(t *testing.T, a int64, weights, want []int64, wantE api.Errno) {
	t.Helper()
	before := slices.Clone(weights)
	parts, e := By(a, weights)
	if !slices.Equal(parts, want) || e != wantE {
		t.Errorf("By(%d, %v) = %v, %d; want %v, %d", a, before, parts, e, want, wantE)
	}
	if !slices.Equal(weights, before) {
		t.Errorf("By(%d, ..) changed %v to %v", a, before, weights)
	}
}

func checkShare(t *testing.T, a int64, parts int, want, wantLeft int64, wantE api.Errno) {
	t.Helper()
	if n, left, e := Share(a, parts); n != want || left != wantLeft || e != wantE {
		t.Errorf("Share(%d, %d) = %d, %d, %d; want %d, %d, %d", a, parts, n, left, e, want, wantLeft, wantE)
	}
}

func TestBy(t *testing.T) {
	for _, x := range []struct {
		a             int64
		weights, want []int64
	}{
		// Without rests.
		{12, []int64{1, 2, 3}, []int64{2, 4, 6}},
		{-12, []int64{3, 2, 1}, []int64{-6, -4, -2}},
		{100, []int64{9999, 1}, []int64{100, 0}},
		// Nothing to split.
		{0, []int64{1}, []int64{0}},
		{0, []int64{3, 4, 0}, []int64{0, 0, 0}},
		{0, []int64{greatest}, []int64{0}},
		// One weight, whatever it is.
		{7, []int64{5}, []int64{7}},
		{-7, []int64{1}, []int64{-7}},
		{greatest, []int64{greatest}, []int64{greatest}},
		{least, []int64{greatest}, []int64{least}},
		{least, []int64{1}, []int64{least}},
		// Rests that are the same: the first ones get one more.
		{10, []int64{1, 1, 1}, []int64{4, 3, 3}},
		{-10, []int64{1, 1, 1}, []int64{-4, -3, -3}},
		{11, []int64{1, 1, 1}, []int64{4, 4, 3}},
		{-11, []int64{1, 1, 1}, []int64{-4, -4, -3}},
		{1, []int64{1, 1}, []int64{1, 0}},
		{-1, []int64{1, 1}, []int64{-1, 0}},
		{3, []int64{1, 1, 1, 1, 1}, []int64{1, 1, 1, 0, 0}},
		{-3, []int64{1, 1, 1, 1, 1}, []int64{-1, -1, -1, 0, 0}},
		{1, []int64{1, 2, 2}, []int64{0, 1, 0}},
		{3, []int64{2, 1, 2, 1}, []int64{1, 1, 1, 0}}, // rests of 0, a half, 0 and a half
		// The greatest rest gets one more, wherever it stands.
		{1, []int64{1, 3}, []int64{0, 1}},
		{-1, []int64{1, 3}, []int64{0, -1}},
		{1, []int64{3, 1}, []int64{1, 0}},
		{1, []int64{1, 3, 2}, []int64{0, 1, 0}},
		{2, []int64{1, 3, 2}, []int64{0, 1, 1}},
		{-2, []int64{1, 3, 2}, []int64{0, -1, -1}},
		{10, []int64{3, 3, 1}, []int64{4, 4, 2}}, // rests of 2, 2 and 3 sevenths
		{9, []int64{5, 1, 1}, []int64{7, 1, 1}},  // rests of 3, 2 and 2 sevenths
		{-9, []int64{1, 5, 1}, []int64{-1, -7, -1}},
		// The rest counts, not the weight.
		{10, []int64{6, 1}, []int64{9, 1}}, // rests of 4 and 3 sevenths
		{11, []int64{6, 1}, []int64{9, 2}}, // rests of 3 and 4 sevenths
		{-11, []int64{6, 1}, []int64{-9, -2}},
		{25, []int64{9, 1}, []int64{23, 2}}, // rests of a half both
		{25, []int64{1, 9}, []int64{3, 22}},
		{-25, []int64{1, 9}, []int64{-3, -22}},
		// Weights of 0 have nothing, also where there are ones left, and stand first.
		{100, []int64{0, 1, 2, 0}, []int64{0, 33, 67, 0}},
		{-100, []int64{0, 1, 2, 0}, []int64{0, -33, -67, 0}},
		{2, []int64{0, 1, 0, 1, 0, 1}, []int64{0, 1, 0, 1, 0, 0}},
		{-2, []int64{0, 1, 0, 1, 0, 1}, []int64{0, -1, 0, -1, 0, 0}},
		{7, []int64{0, 0, 1}, []int64{0, 0, 7}},
		// Amounts and weights of 63 bits, whose products take more than 64.
		{greatest, []int64{1, 1}, []int64{1 << 62, 1<<62 - 1}},
		{least, []int64{1, 1}, []int64{-(1 << 62), -(1 << 62)}},
		{least + 1, []int64{1, 1}, []int64{-(1 << 62), -(1 << 62) + 1}},
		{least, []int64{0, 1}, []int64{0, least}},
		{least, []int64{1, 0}, []int64{least, 0}},
		{greatest, []int64{0, 1}, []int64{0, greatest}},
		{1 << 62, []int64{1 << 61, 1 << 61}, []int64{1 << 61, 1 << 61}},
		{greatest, []int64{1 << 62, 1<<62 - 1}, []int64{1 << 62, 1<<62 - 1}},
		{least, []int64{1 << 62, 1<<62 - 1}, []int64{-(1 << 62) - 1, 1 - 1<<62}},
		{least, []int64{1<<62 - 1, 1 << 62}, []int64{1 - 1<<62, -(1 << 62) - 1}},
		{greatest - 1, []int64{1, greatest - 1}, []int64{1, greatest - 2}},
		{least, []int64{1, greatest - 1}, []int64{-1, least + 1}},
		{1, []int64{1 << 62, 1<<62 - 1}, []int64{1, 0}},
		{-1, []int64{1<<62 - 1, 1 << 62}, []int64{0, -1}},
	} {
		checkBy(t, x.a, x.weights, x.want, api.OK)
	}
}

// TestByWrong asks for each error alone, and where more than one would hold.
func TestByWrong(t *testing.T) {
	zeros := make([]int64, 101)
	ones := slices.Repeat([]int64{1}, 101)
	overs := slices.Repeat([]int64{greatest}, 101)
	belows := slices.Repeat([]int64{-1}, 101)
	for _, x := range []struct {
		weights []int64
		e       api.Errno
	}{
		// More than 100, whatever they are.
		{ones, api.ErrBig},
		{zeros, api.ErrBig},
		{overs, api.ErrBig},
		{belows, api.ErrBig},
		{slices.Repeat([]int64{1}, 100000), api.ErrBig},
		// Below 0, though the sum is 0, does not fit, or fits in the end.
		{belows[:100], api.ErrArg},
		{[]int64{-1}, api.ErrArg},
		{[]int64{least}, api.ErrArg},
		{[]int64{0, -1}, api.ErrArg},
		{[]int64{1, -1}, api.ErrArg},
		{[]int64{-1, 1}, api.ErrArg},
		{[]int64{-1, 2}, api.ErrArg},
		{[]int64{greatest, greatest, -1}, api.ErrArg},
		{[]int64{greatest, 1, -1}, api.ErrArg},
		{[]int64{least, least}, api.ErrArg},
		{[]int64{least, -1, greatest}, api.ErrArg},
		// A sum that does not fit, by one, or by much.
		{overs[:100], api.ErrOver},
		{[]int64{greatest, 1}, api.ErrOver},
		{[]int64{1, greatest}, api.ErrOver},
		{[]int64{1 << 62, 1 << 62}, api.ErrOver},
		{[]int64{1 << 62, 0, 1 << 62, 0}, api.ErrOver},
		{[]int64{1 << 62, 1 << 62, 1 << 62, 1 << 62}, api.ErrOver}, // wraps round to 0
		// A sum of 0.
		{nil, api.ErrZero},
		{[]int64{}, api.ErrZero},
		{[]int64{0}, api.ErrZero},
		{[]int64{0, 0}, api.ErrZero},
		{zeros[:100], api.ErrZero},
	} {
		for _, a := range amounts() {
			checkBy(t, a, x.weights, nil, x.e)
		}
	}
}

func TestByWrongWeightWhereverItStands(t *testing.T) {
	for _, weights := range weightLists() {
		for at := range min(len(weights)+1, api.Weights) {
			for _, wrong := range []int64{-1, least} {
				with := slices.Insert(slices.Clone(weights), at, wrong)[:min(len(weights)+1, api.Weights)]
				checkBy(t, 10, with, nil, api.ErrArg)
			}
		}
	}
}

func TestByOfAsManyAsThereMayBe(t *testing.T) {
	ones := slices.Repeat([]int64{1}, 100)
	for left := range 100 {
		want := slices.Repeat([]int64{3}, 100)
		wantBelow := slices.Repeat([]int64{-3}, 100)
		for i := range left {
			want[i], wantBelow[i] = 4, -4
		}
		checkBy(t, int64(300+left), ones, want, api.OK)
		checkBy(t, int64(-300-left), ones, wantBelow, api.OK)
	}
	checkBy(t, 300, append(ones, 1), nil, api.ErrBig)
}

func TestByOfAll(t *testing.T) {
	several := 0
	eachSplit(func(a int64, weights []int64) {
		want, wantE := wantBy(a, weights)
		checkBy(t, a, weights, want, wantE)
		if onesLeft(a, weights) > 1 {
			several++
		}
	})
	if several < 5000 {
		t.Errorf("only %d times did more than one part get one more", several)
	}
}

// onesLeft answers how many ones rounding towards 0 leaves.
func onesLeft(a int64, weights []int64) int64 {
	sum := new(big.Int)
	for _, weight := range weights {
		sum.Add(sum, big.NewInt(weight))
	}
	left := big.NewInt(a)
	for _, weight := range weights {
		product := new(big.Int).Mul(big.NewInt(a), big.NewInt(weight))
		left.Sub(left, product.Quo(product, sum))
	}
	return left.Abs(left).Int64()
}

// TestByIsNew changes what By answered and what it was given: neither is seen in the other, or later.
func TestByIsNew(t *testing.T) {
	weights := []int64{1, 1, 1}
	first, _ := By(10, weights)
	clear(first)
	checkBy(t, 10, weights, []int64{4, 3, 3}, api.OK)
	second, _ := By(10, weights)
	clear(weights)
	if !slices.Equal(second, []int64{4, 3, 3}) {
		t.Errorf("the answer went along with the weights: %v", second)
	}
}

// TestWholeBy asks P4.3 of parts by their weights.
func TestWholeBy(t *testing.T) {
	eachSplit(func(a int64, weights []int64) {
		parts, e := By(a, weights)
		if e != api.OK || len(parts) != len(weights) {
			t.Errorf("By(%d, %v) = %v, %d", a, weights, parts, e)
			return
		}
		all, sum := new(big.Int), new(big.Int)
		for i := range parts {
			all.Add(all, big.NewInt(parts[i]))
			sum.Add(sum, big.NewInt(weights[i]))
		}
		if all.Cmp(big.NewInt(a)) != 0 {
			t.Errorf("By(%d, %v) = %v is %v together", a, weights, parts, all)
		}
		for i := range parts {
			checkPart(t, a, parts[i], big.NewInt(weights[i]), sum)
		}
	})
}

func TestWholeShare(t *testing.T) {
	for _, a := range amounts() {
		for parts := range api.Whole + 1 {
			taken, left, e := Share(a, parts)
			if e != api.OK {
				t.Errorf("Share(%d, %d): %d", a, parts, e)
				continue
			}
			all := new(big.Int).Add(big.NewInt(taken), big.NewInt(left))
			if all.Cmp(big.NewInt(a)) != 0 {
				t.Errorf("Share(%d, %d) = %d and %d are %v together", a, parts, taken, left, all)
			}
			whole := big.NewInt(api.Whole)
			checkPart(t, a, taken, big.NewInt(int64(parts)), whole)
			checkPart(t, a, left, big.NewInt(int64(api.Whole-parts)), whole)
		}
	}
}

// checkPart asks that a part of a has no other sign, is less than 1 from its
// fraction, and is nothing for a weight of 0.
func checkPart(t *testing.T, a, part int64, weight, sum *big.Int) {
	t.Helper()
	if a >= 0 && part < 0 || a <= 0 && part > 0 {
		t.Errorf("%d, a part of %d, has another sign", part, a)
	}
	far := new(big.Int).Mul(big.NewInt(a), weight)
	far.Sub(far, new(big.Int).Mul(big.NewInt(part), sum))
	if far.CmpAbs(sum) >= 0 {
		t.Errorf("%d is as far as 1 from %d times %v by %v", part, a, weight, sum)
	}
	if weight.Sign() == 0 && part != 0 {
		t.Errorf("the weight 0 has %d of %d", part, a)
	}
}

func TestShare(t *testing.T) {
	for _, x := range []struct {
		a          int64
		parts      int
		want, left int64
	}{
		{100, 2500, 25, 75},
		{-100, 2500, -25, -75},
		{100, 3333, 33, 67},
		{100, 6667, 67, 33},
		{-100, 3333, -33, -67},
		// Parts of 0 and of all.
		{9, 0, 0, 9},
		{-9, 0, 0, -9},
		{9, 10000, 9, 0},
		{-9, 10000, -9, 0},
		{greatest, 0, 0, greatest},
		{least, 0, 0, least},
		{greatest, 10000, greatest, 0},
		{least, 10000, least, 0},
		{9, 1, 0, 9},
		{9, 9999, 9, 0},
		// Nothing.
		{0, 0, 0, 0},
		{0, 5000, 0, 0},
		{0, 10000, 0, 0},
		// Halves go away from 0, on the side of what is taken.
		{7, 5000, 4, 3},
		{-7, 5000, -4, -3},
		{1, 5000, 1, 0},
		{-1, 5000, -1, 0},
		{1, 4999, 0, 1},
		{-1, 4999, 0, -1},
		{1, 5001, 1, 0},
		{5000, 1, 1, 4999},
		{4999, 1, 0, 4999},
		{-5000, 1, -1, -4999},
		{-4999, 1, 0, -4999},
		{15000, 1, 2, 14998},
		{-15000, 1, -2, -14998},
		{10, 2500, 3, 7},
		{10, 7500, 8, 2},
		{-10, 7500, -8, -2},
		// Both ends of 64 bits.
		{greatest, 5000, 1 << 62, 1<<62 - 1},
		{least, 5000, -(1 << 62), -(1 << 62)},
		{greatest, 9999, 9222449699651090329, 922337203685478},
		{least, 9999, -9222449699651090330, -922337203685478},
		{greatest, 1, 922337203685478, 9222449699651090329},
		{least, 1, -922337203685478, -9222449699651090330},
	} {
		checkShare(t, x.a, x.parts, x.want, x.left, api.OK)
	}
}

func TestShareIsMulDiv(t *testing.T) {
	r := rand.New(rand.NewSource(2))
	l := amounts()
	for range 500 {
		l = append(l, anyAmount(r))
	}
	for _, a := range l {
		for range 200 {
			parts := r.Intn(api.Whole + 1)
			want, e := wide.MulDiv(a, int64(parts), api.Whole)
			checkShare(t, a, parts, want, a-want, e)
		}
	}
}

func TestShareWrong(t *testing.T) {
	for _, parts := range []int{-1, 10001, -10000, 20000, math.MinInt, math.MaxInt, 1 << 32, -(1 << 32)} {
		for _, a := range amounts() {
			checkShare(t, a, parts, 0, 0, api.ErrArg)
		}
	}
}

// FuzzBy holds By against the words of P4.1, of any four weights.
func FuzzBy(f *testing.F) {
	f.Add(int64(10), int64(1), int64(1), int64(1), int64(0))
	f.Add(int64(least), int64(1)<<62, int64(1)<<61, int64(7), int64(0))
	f.Add(int64(greatest), int64(greatest), int64(0), int64(0), int64(1))
	f.Add(int64(-11), int64(6), int64(-1), int64(0), int64(0))
	f.Fuzz(func(t *testing.T, a, w, x, y, z int64) {
		weights := []int64{w, x, y, z}
		want, wantE := wantBy(a, weights)
		checkBy(t, a, weights, want, wantE)
	})
}

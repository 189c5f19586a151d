package wide

import (
	"math"
	"math/big"
	"math/rand"
	"testing"

	"comptroller/api"
)

const (
	least    = math.MinInt64
	greatest = math.MaxInt64
)

// edges are both ends, what is beside them, and what is around the halves of the bits.
func edges() []int64 {
	return []int64{
		0, 1, -1, 2, -2, 3, -3, 7, -7, 10000, -10000,
		1<<31 - 1, 1 << 31, -(1 << 31), 1<<32 - 1, 1 << 32, 1<<32 + 1, -(1 << 32) + 1, -(1 << 32) - 1,
		1<<62 - 1, 1 << 62, 1<<62 + 1, -(1 << 62) + 1, -(1 << 62), -(1 << 62) - 1,
		greatest, greatest - 1, greatest - 2, least, least + 1, least + 2,
	}
}

// eachThree calls f with all small numbers, all edges, and numbers of all lengths.
func eachThree(f func(a, b, c int64)) {
	eachOf(edges(), f)
	var small []int64
	for n := range int64(25) {
		small = append(small, n-12)
	}
	eachOf(small, f)
	// A fixed seed: the tests are to be the same each time.
	r := rand.New(rand.NewSource(1))
	for range 20000 {
		f(anyLength(r), anyLength(r), anyLength(r))
	}
}

func eachOf(l []int64, f func(a, b, c int64)) {
	for _, a := range l {
		for _, b := range l {
			for _, c := range l {
				f(a, b, c)
			}
		}
	}
}

func anyLength(r *rand.Rand) int64 {
	return int64(r.Uint64()) >> r.Intn(64)
}

func times(a, b int64) *big.Int {
	return new(big.Int).Mul(big.NewInt(a), big.NewInt(b))
}

// nearest answers p by c, a half away from 0: without signs, that is twice p
// and once c, by twice c, cut off.
func nearest(p *big.Int, c int64) *big.Int {
	size := new(big.Int).Abs(big.NewInt(c))
	n := new(big.Int).Lsh(new(big.Int).Abs(p), 1)
	n.Add(n, size)
	n.Quo(n, size.Lsh(size, 1))
	if p.Sign() < 0 != (c < 0) {
		n.Neg(n)
	}
	return n
}

// fits answers what a call has to answer where the true number is n.
func fits(n *big.Int) (int64, api.Errno) {
	if !n.IsInt64() {
		return 0, api.ErrOver
	}
	return n.Int64(), api.OK
}

func checkMulDiv(t *testing.T, a, b, c, want int64, wantE api.Errno) {
	t.Helper()
	if n, e := MulDiv(a, b, c); n != want || e != wantE {
		t.Errorf("MulDiv(%d, %d, %d) = %d, %d; want %d, %d", a, b, c, n, e, want, wantE)
	}
}

func checkExact(t *testing.T, a, b, c, want int64, wantIs bool, wantE api.Errno) {
	t.Helper()
	if n, is, e := Exact(a, b, c); n != want || is != wantIs || e != wantE {
		t.Errorf("Exact(%d, %d, %d) = %d, %v, %d; want %d, %v, %d", a, b, c, n, is, e, want, wantIs, wantE)
	}
}

func checkCmp(t *testing.T, a, b, c, d int64, want int) {
	t.Helper()
	if n := Cmp(a, b, c, d); n != want {
		t.Errorf("Cmp(%d, %d, %d, %d) = %d; want %d", a, b, c, d, n, want)
	}
}

func TestMulDiv(t *testing.T) {
	for _, x := range []struct {
		a, b, c, want int64
		e             api.Errno
	}{
		{6, 7, 3, 14, api.OK},
		{0, 5, 3, 0, api.OK},
		{0, 5, -3, 0, api.OK},
		{1, 1, 3, 0, api.OK},
		{2, 1, 3, 1, api.OK},
		{-1, 1, 3, 0, api.OK},
		{-2, 1, 3, -1, api.OK},
		// Halves, of which the one farther from 0 is taken.
		{7, 1, 2, 4, api.OK},
		{-7, 1, 2, -4, api.OK},
		{7, -1, 2, -4, api.OK},
		{7, 1, -2, -4, api.OK},
		{-7, -1, 2, 4, api.OK},
		{-7, 1, -2, 4, api.OK},
		{-7, -1, -2, -4, api.OK},
		{5, 1, 2, 3, api.OK},
		{1, 1, 2, 1, api.OK},
		{-1, 1, 2, -1, api.OK},
		{1, 1, -2, -1, api.OK},
		{3, 5, 10, 2, api.OK},
		{-5, 5, 10, -3, api.OK},
		// Around a half of the greatest divisors, whose doubled rests take all 64 bits.
		{1 << 62, 1, least, -1, api.OK},
		{1<<62 - 1, 1, least, 0, api.OK},
		{-(1 << 62), 1, least, 1, api.OK},
		{1 << 62, 1, greatest, 1, api.OK},
		{1<<62 - 1, 1, greatest, 0, api.OK},
		{greatest - 1, 1, greatest, 1, api.OK},
		{greatest, 1, least, -1, api.OK},
		// Products of more than 64 bits.
		{greatest, greatest, greatest, greatest, api.OK},
		{greatest, 10000, 10000, greatest, api.OK},
		{least, 10000, 10000, least, api.OK},
		{least, least, least, least, api.OK},
		{1 << 40, 1 << 40, 1 << 50, 1 << 30, api.OK},
		{1000000000000, 1000000000000, 7, 0, api.ErrOver},
		{1000000000000, 1000000000000, 3000000000007, 333333333333, api.OK},
	} {
		checkMulDiv(t, x.a, x.b, x.c, x.want, x.e)
	}
}

func TestMulDivJustFits(t *testing.T) {
	for _, x := range []struct {
		a, b, c, want int64
		e             api.Errno
	}{
		// 2^63 itself.
		{1 << 62, 2, 1, 0, api.ErrOver},
		{1 << 62, -2, 1, least, api.OK},
		{1 << 62, 2, -1, least, api.OK},
		{least, 1, 1, least, api.OK},
		{least, -1, 1, 0, api.ErrOver},
		{least, 1, -1, 0, api.ErrOver},
		{least, -1, -1, least, api.OK},
		{greatest, 1, -1, least + 1, api.OK},
		// 2^63 less a half is rounded to 2^63.
		{1<<32 - 1, 1<<32 + 1, 2, 0, api.ErrOver},
		{1<<32 - 1, 1<<32 + 1, -2, least, api.OK},
		// A very little more than 2^63 is rounded to 2^63.
		{greatest, greatest, greatest - 1, 0, api.ErrOver},
		{greatest, greatest, -(greatest - 1), least, api.OK},
		// 2^63 and a half is rounded to 2^63 + 1.
		{274177, 67280421310721, 2, 0, api.ErrOver},
		{274177, 67280421310721, -2, 0, api.ErrOver},
		// 2^64 less a half is rounded to 2^64, whose low bits are 0.
		{253921, 145295143558111, 2, 0, api.ErrOver},
		{253921, 145295143558111, -2, 0, api.ErrOver},
		// 2^64 and more, whose low bits are those of small amounts.
		{1 << 32, 1 << 32, 1, 0, api.ErrOver},
		{274177, 67280421310721, 1, 0, api.ErrOver},
		{-274177, 67280421310721, 1, 0, api.ErrOver},
		{least, least, 1, 0, api.ErrOver},
		{least, greatest, 1, 0, api.ErrOver},
	} {
		checkMulDiv(t, x.a, x.b, x.c, x.want, x.e)
	}
}

func TestMulDivAgainstAnySize(t *testing.T) {
	eachThree(func(a, b, c int64) {
		if c == 0 {
			checkMulDiv(t, a, b, c, 0, api.ErrZero)
			return
		}
		want, wantE := fits(nearest(times(a, b), c))
		checkMulDiv(t, a, b, c, want, wantE)
	})
}

func TestExact(t *testing.T) {
	for _, x := range []struct {
		a, b, c, want int64
		is            bool
		e             api.Errno
	}{
		{6, 7, 3, 14, true, api.OK},
		{-6, 7, 3, -14, true, api.OK},
		{6, -7, -3, 14, true, api.OK},
		{0, 5, -3, 0, true, api.OK},
		{1, 1, 2, 0, false, api.OK},
		{-7, 1, 2, 0, false, api.OK},
		{1, 1, 3, 0, false, api.OK},
		{3333, 3333, 10000, 0, false, api.OK},
		{5000, 5000, 10000, 2500, true, api.OK},
		// Products of more than 64 bits.
		{greatest, 10000, 10000, greatest, true, api.OK},
		{least, least, least, least, true, api.OK},
		{greatest, least, greatest, least, true, api.OK},
		{greatest, greatest, least, 0, false, api.OK},
		// What just fits, and what just does not.
		{1 << 62, 2, 1, 0, false, api.ErrOver},
		{1 << 62, 2, -1, least, true, api.OK},
		{least, 1, 1, least, true, api.OK},
		{least, 1, -1, 0, false, api.ErrOver},
		{least, -1, -1, least, true, api.OK},
		{greatest, -1, 1, least + 1, true, api.OK},
		{274177, 67280421310721, 1, 0, false, api.ErrOver},
		{1 << 32, 1 << 32, -1, 0, false, api.ErrOver},
		{least, least, 1, 0, false, api.ErrOver},
		// What is no whole number is no error, though it does not fit.
		{1<<32 - 1, 1<<32 + 1, 2, 0, false, api.OK},
		{274177, 67280421310721, 2, 0, false, api.OK},
		{greatest, greatest, 2, 0, false, api.OK},
		{greatest, -greatest, 10, 0, false, api.OK},
	} {
		checkExact(t, x.a, x.b, x.c, x.want, x.is, x.e)
	}
}

func TestExactAgainstAnySize(t *testing.T) {
	eachThree(func(a, b, c int64) {
		if c == 0 {
			checkExact(t, a, b, c, 0, false, api.ErrZero)
			return
		}
		quotient, rest := new(big.Int).QuoRem(times(a, b), big.NewInt(c), new(big.Int))
		if rest.Sign() != 0 {
			checkExact(t, a, b, c, 0, false, api.OK)
			return
		}
		want, wantE := fits(quotient)
		checkExact(t, a, b, c, want, wantE == api.OK, wantE)
	})
}

// TestExactComesBack takes quotients and divisors that are known, so that most
// of what is asked is a whole number, unlike that of three numbers by chance.
func TestExactComesBack(t *testing.T) {
	eachThree(func(a, b, _ int64) {
		if a == 0 {
			return
		}
		checkExact(t, a, b, a, b, true, api.OK)
		checkExact(t, b, a, a, b, true, api.OK)
		checkMulDiv(t, a, b, a, b, api.OK)
	})
}

func TestByZero(t *testing.T) {
	for _, a := range edges() {
		for _, b := range edges() {
			checkMulDiv(t, a, b, 0, 0, api.ErrZero)
			checkExact(t, a, b, 0, 0, false, api.ErrZero)
		}
	}
}

func TestCmp(t *testing.T) {
	for _, x := range []struct {
		a, b, c, d int64
		want       int
	}{
		{2, 3, 1, 6, 0},
		{2, 3, 1, 7, -1},
		{2, 3, 1, 5, 1},
		{-2, 3, 1, -6, 0},
		{-2, 3, 1, -7, 1},
		{-2, 3, 1, -5, -1},
		{-2, 3, 1, 6, -1},
		{2, 3, 1, -6, 1},
		{-2, -3, 1, 6, 0},
		// Each 0 is the same one.
		{0, -5, 0, 5, 0},
		{-5, 0, 0, 0, 0},
		{0, -5, 7, 0, 0},
		{0, -5, -1, 1, 1},
		{0, -5, 1, 1, -1},
		{-1, 1, -7, 0, -1},
		// Low bits that are the same, and low bits that stand the other way.
		{1 << 32, 1 << 32, 1 << 33, 1 << 32, -1},
		{1 << 32, 1 << 32, 0, 1, 1},
		{1 << 32, 1 << 32, greatest, 1, 1},
		{-(1 << 32), 1 << 32, -greatest, 1, -1},
		// Products of more than 64 bits that are 1 apart, or not at all.
		{1 << 32, 1 << 32, 274177, 67280421310721, -1},
		{-(1 << 32), 1 << 32, 274177, -67280421310721, 1},
		{greatest, greatest, least, least + 2, 1},
		{greatest, -greatest, least, greatest - 1, -1},
		{least, least, 1 << 62, -(1 << 62), 1},
		{least, least, least, least, 0},
		{least, greatest, greatest, least, 0},
		{least, least, greatest, least, 1},
		{least, greatest, least, least, -1},
		{greatest, greatest, least, least, -1},
	} {
		want := times(x.a, x.b).Cmp(times(x.c, x.d))
		if want != x.want {
			t.Fatalf("the row %v is wrong: it is %d", x, want)
		}
		checkCmp(t, x.a, x.b, x.c, x.d, want)
	}
}

func TestCmpAgainstAnySize(t *testing.T) {
	for _, d := range edges() {
		eachOf(edges(), func(a, b, c int64) {
			checkCmp(t, a, b, c, d, times(a, b).Cmp(times(c, d)))
		})
	}
	r := rand.New(rand.NewSource(2))
	for range 50000 {
		a, b, c, d := anyLength(r), anyLength(r), anyLength(r), anyLength(r)
		checkCmp(t, a, b, c, d, times(a, b).Cmp(times(c, d)))
		checkCmp(t, a, b, b, a, 0)
	}
}

func TestGcd(t *testing.T) {
	for _, x := range []struct {
		a, b int64
		want uint64
	}{
		{0, 0, 0},
		{0, 5, 5},
		{5, 0, 5},
		{-5, 0, 5},
		{0, -5, 5},
		{1, 1, 1},
		{48, 36, 12},
		{48, -36, 12},
		{-48, 36, 12},
		{-48, -36, 12},
		{7, 10000, 1},
		{6, 6, 6},
		{greatest, greatest, greatest},
		{greatest, 0, greatest},
		{greatest, 7, 7},
		{greatest, least, 1},
		{least, 0, 1 << 63},
		{0, least, 1 << 63},
		{least, least, 1 << 63},
		{least, 1 << 62, 1 << 62},
		{least, 96, 32},
		{least, -1, 1},
		// The two amounts of which it takes the most steps.
		{7540113804746346429, 4660046610375530309, 1},
	} {
		if n := Gcd(x.a, x.b); n != x.want {
			t.Errorf("Gcd(%d, %d) = %d; want %d", x.a, x.b, n, x.want)
		}
	}
}

func TestGcdAgainstAnySize(t *testing.T) {
	eachThree(func(a, b, _ int64) {
		sizeA, sizeB := new(big.Int).Abs(big.NewInt(a)), new(big.Int).Abs(big.NewInt(b))
		want := new(big.Int).GCD(nil, nil, sizeA, sizeB)
		if n := Gcd(a, b); !want.IsUint64() || n != want.Uint64() {
			t.Errorf("Gcd(%d, %d) = %d; want %s", a, b, n, want)
		}
	})
}

// TestSigns: what has no other sign is left out, be it handed in or told.
func TestSigns(t *testing.T) {
	eachThree(func(a, b, c int64) {
		if c == 0 || a == least || b == least || c == least {
			return
		}
		n, e := MulDiv(a, b, c)
		if e == api.OK && n != least {
			checkMulDiv(t, -a, b, c, -n, api.OK)
			checkMulDiv(t, a, -b, c, -n, api.OK)
			checkMulDiv(t, a, b, -c, -n, api.OK)
		}
		checkMulDiv(t, -a, -b, c, n, e)
		checkMulDiv(t, -a, b, -c, n, e)
		checkMulDiv(t, a, -b, -c, n, e)
		exact, is, e := Exact(a, b, c)
		if e == api.OK && exact != least {
			checkExact(t, -a, b, c, -exact, is, api.OK)
			checkExact(t, a, -b, c, -exact, is, api.OK)
			checkExact(t, a, b, -c, -exact, is, api.OK)
		}
		checkExact(t, -a, -b, c, exact, is, e)
	})
}

// TestNear asks what is told itself, without a rule of rounding.
func TestNear(t *testing.T) {
	told := 0
	eachThree(func(a, b, c int64) {
		n, e := MulDiv(a, b, c)
		if e != api.OK {
			return
		}
		told++
		apart := new(big.Int).Sub(times(n, c), times(a, b))
		if apart.Lsh(apart, 1).CmpAbs(big.NewInt(c)) > 0 {
			t.Errorf("MulDiv(%d, %d, %d) = %d is not near", a, b, c, n)
		}
	})
	if told < 10000 {
		t.Errorf("only %d numbers were told", told)
	}
}

// FuzzDivide holds MulDiv and Exact against numbers of any size.
func FuzzDivide(f *testing.F) {
	f.Add(int64(7), int64(1), int64(2))
	f.Add(int64(least), int64(least), int64(least))
	f.Add(int64(253921), int64(145295143558111), int64(-2))
	f.Fuzz(func(t *testing.T, a, b, c int64) {
		if c == 0 {
			checkMulDiv(t, a, b, c, 0, api.ErrZero)
			checkExact(t, a, b, c, 0, false, api.ErrZero)
			return
		}
		want, wantE := fits(nearest(times(a, b), c))
		checkMulDiv(t, a, b, c, want, wantE)
		if new(big.Int).Rem(times(a, b), big.NewInt(c)).Sign() != 0 {
			checkExact(t, a, b, c, 0, false, api.OK)
			return
		}
		checkExact(t, a, b, c, want, wantE == api.OK, wantE)
	})
}

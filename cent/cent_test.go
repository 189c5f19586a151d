package cent

import (
	"math"
	"math/big"
	"math/rand"
	"slices"
	"strconv"
	"strings"
	"testing"

	"comptroller/api"
)

const (
	least    = math.MinInt64
	greatest = math.MaxInt64
)

// amounts are ordinary ones, both edges, and those around their halves, where two of them just fit or just do not.
func amounts() []int64 {
	l := []int64{
		0, 1, -1, 2, -2, 7, -7, 10, -10, 99, -100, 12345, -12345,
		1 << 31, -(1 << 31), 1<<32 - 1, 1 << 32, 1 << 40, -(1 << 40),
		1<<62 - 1, 1 << 62, 1<<62 + 1, -(1 << 62) + 1, -(1 << 62), -(1 << 62) - 1,
		greatest, greatest - 1, least, least + 1,
	}
	// A fixed seed: the tests are to be the same each time.
	r := rand.New(rand.NewSource(1))
	for range 60 {
		l = append(l, int64(r.Uint64())>>r.Intn(64))
	}
	return l
}

// fits answers what a call has to answer where the true number is n.
func fits(n *big.Int) (int64, api.Errno) {
	if !n.IsInt64() {
		return 0, api.ErrOver
	}
	return n.Int64(), api.OK
}

func TestAdd(t *testing.T) {
	for _, c := range []struct {
		a, b, want int64
		e          api.Errno
	}{
		{0, 0, 0, api.OK},
		{5, -7, -2, api.OK},
		{greatest, 0, greatest, api.OK},
		{greatest - 1, 1, greatest, api.OK},
		{greatest, 1, 0, api.ErrOver},
		{1, greatest, 0, api.ErrOver},
		{greatest, greatest, 0, api.ErrOver},
		{least, 0, least, api.OK},
		{least + 1, -1, least, api.OK},
		{least, -1, 0, api.ErrOver},
		{-1, least, 0, api.ErrOver},
		{least, least, 0, api.ErrOver},
		{least, greatest, -1, api.OK},
	} {
		if n, e := Add(c.a, c.b); n != c.want || e != c.e {
			t.Errorf("Add(%d, %d) = %d, %d; want %d, %d", c.a, c.b, n, e, c.want, c.e)
		}
	}
}

func TestSub(t *testing.T) {
	for _, c := range []struct {
		a, b, want int64
		e          api.Errno
	}{
		{0, 0, 0, api.OK},
		{5, -7, 12, api.OK},
		{greatest, greatest, 0, api.OK},
		{greatest, -1, 0, api.ErrOver},
		{greatest, least, 0, api.ErrOver},
		{least, least, 0, api.OK},
		{least, 1, 0, api.ErrOver},
		{least, greatest, 0, api.ErrOver},
		{0, least, 0, api.ErrOver},
		{-1, least, greatest, api.OK},
		{-1, greatest, least, api.OK},
		{-2, greatest, 0, api.ErrOver},
	} {
		if n, e := Sub(c.a, c.b); n != c.want || e != c.e {
			t.Errorf("Sub(%d, %d) = %d, %d; want %d, %d", c.a, c.b, n, e, c.want, c.e)
		}
	}
}

func TestNeg(t *testing.T) {
	for _, c := range []struct {
		a, want int64
		e       api.Errno
	}{
		{0, 0, api.OK},
		{5, -5, api.OK},
		{-5, 5, api.OK},
		{greatest, least + 1, api.OK},
		{least + 1, greatest, api.OK},
		{least, 0, api.ErrOver},
	} {
		if n, e := Neg(c.a); n != c.want || e != c.e {
			t.Errorf("Neg(%d) = %d, %d; want %d, %d", c.a, n, e, c.want, c.e)
		}
	}
}

// TestAgainstWide holds the three calls against numbers that have no edges.
func TestAgainstWide(t *testing.T) {
	for _, a := range amounts() {
		wideA := big.NewInt(a)
		want, wantE := fits(new(big.Int).Neg(wideA))
		if n, e := Neg(a); n != want || e != wantE {
			t.Errorf("Neg(%d) = %d, %d; want %d, %d", a, n, e, want, wantE)
		}
		for _, b := range amounts() {
			wideB := big.NewInt(b)
			want, wantE = fits(new(big.Int).Add(wideA, wideB))
			if n, e := Add(a, b); n != want || e != wantE {
				t.Errorf("Add(%d, %d) = %d, %d; want %d, %d", a, b, n, e, want, wantE)
			}
			want, wantE = fits(new(big.Int).Sub(wideA, wideB))
			if n, e := Sub(a, b); n != want || e != wantE {
				t.Errorf("Sub(%d, %d) = %d, %d; want %d, %d", a, b, n, e, want, wantE)
			}
		}
	}
}

func TestSum(t *testing.T) {
	for _, c := range []struct {
		l    []int64
		want int64
		e    api.Errno
	}{
		{nil, 0, api.OK},
		{[]int64{}, 0, api.OK},
		{[]int64{0}, 0, api.OK},
		{[]int64{least}, least, api.OK},
		{[]int64{greatest}, greatest, api.OK},
		{[]int64{5, -9, 2}, -2, api.OK},
		{[]int64{greatest, least, 1}, 0, api.OK},
		{[]int64{greatest, -5, 5}, greatest, api.OK},
		{[]int64{least, 5, -5}, least, api.OK},
		{[]int64{greatest, 1}, 0, api.ErrOver},
		{[]int64{least, -1}, 0, api.ErrOver},
		// The whole fits, but a sum on the way does not.
		{[]int64{greatest, 1, -5}, 0, api.ErrOver},
		{[]int64{least, -1, 5}, 0, api.ErrOver},
		{[]int64{1, greatest, least, 3}, 0, api.ErrOver},
		{[]int64{1 << 62, 1 << 62, least}, 0, api.ErrOver},
		// The same in another order, where each sum on the way fits.
		{[]int64{greatest, -5, 1}, greatest - 4, api.OK},
		{[]int64{least, 5, -1}, least + 4, api.OK},
		{[]int64{1 << 62, least, 1 << 62}, 0, api.OK},
	} {
		before := slices.Clone(c.l)
		if n, e := Sum(c.l); n != c.want || e != c.e {
			t.Errorf("Sum(%v) = %d, %d; want %d, %d", c.l, n, e, c.want, c.e)
		}
		if !slices.Equal(c.l, before) {
			t.Errorf("Sum changed %v to %v", before, c.l)
		}
	}
}

func TestSumIsAddOneByOne(t *testing.T) {
	r := rand.New(rand.NewSource(2))
	all := amounts()
	for range 3000 {
		l := make([]int64, r.Intn(6))
		for i := range l {
			l[i] = all[r.Intn(len(all))]
		}
		var want int64
		wantE := api.OK
		for _, a := range l {
			want, wantE = fits(new(big.Int).Add(big.NewInt(want), big.NewInt(a)))
			if wantE != api.OK {
				break
			}
		}
		if n, e := Sum(l); n != want || e != wantE {
			t.Errorf("Sum(%v) = %d, %d; want %d, %d", l, n, e, want, wantE)
		}
	}
}

func TestPrint(t *testing.T) {
	for _, c := range []struct {
		a    int64
		want string
	}{
		{0, "0"},
		{7, "7"},
		{-7, "-7"},
		{10, "10"},
		{-100, "-100"},
		{1234567890, "1234567890"},
		{greatest, "9223372036854775807"},
		{least, "-9223372036854775808"},
	} {
		if s := Print(c.a); s != c.want {
			t.Errorf("Print(%d) = %q; want %q", c.a, s, c.want)
		}
	}
	for _, a := range amounts() {
		if s := Print(a); s != big.NewInt(a).String() {
			t.Errorf("Print(%d) = %q", a, s)
		}
	}
}

func TestParse(t *testing.T) {
	for s, want := range map[string]int64{
		"0":                    0,
		"7":                    7,
		"-7":                   -7,
		"-12":                  -12,
		"10":                   10,
		"-100":                 -100,
		"9223372036854775806":  greatest - 1,
		"9223372036854775807":  greatest,
		"-9223372036854775807": least + 1,
		"-9223372036854775808": least,
	} {
		if n, e := Parse(s); n != want || e != api.OK {
			t.Errorf("Parse(%q) = %d, %d; want %d, OK", s, n, e, want)
		}
	}
}

func TestParseNoNumber(t *testing.T) {
	nines := strings.Repeat("9", 30)
	for _, s := range []string{
		"", "-", "--", "+", " ", ".",
		"-0", "00", "000", "-00", "01", "012", "-012", "0-1", "+0", "+1", "+12",
		" 1", "1 ", "1 2", "- 1", "\t1", "1\n", "1\x00", "\x001",
		"--1", "-+1", "1-", "1-2", "1+2",
		"1_0", "1,000", "1.0", "1.", ".5", "1e3", "0x10", "0b1", "0o7", "1f", "a", "NaN", "Inf",
		"/", ":", "1/", "1:", // the bytes on both sides of the digits
		"\u0661", "\uff11", "\u22121", "1\u0660", "\xff", "1\xb2",
		// Neither has its form, whatever its size: the form counts first.
		"0" + nines, "-0" + nines, "+" + nines, nines + " ", nines + "x", nines + ".0",
		strings.Repeat("0", 1000), strings.Repeat("9", 1000) + "-",
	} {
		if n, e := Parse(s); n != 0 || e != api.ErrForm {
			t.Errorf("Parse(%q) = %d, %d; want 0, ErrForm", s, n, e)
		}
	}
}

func TestParseTooBig(t *testing.T) {
	for _, s := range []string{
		"9223372036854775808",
		"-9223372036854775809",
		"9223372036854775810",
		"10000000000000000000",
		"-10000000000000000000",
		// Around 2^64, where the bits wrap round to small amounts again.
		"18446744073709551615", "18446744073709551616", "18446744073709551617",
		"-18446744073709551615", "-18446744073709551616", "-18446744073709551617",
		"340282366920938463463374607431768211456",
		strings.Repeat("9", 20000),
		"-" + strings.Repeat("9", 20000),
		"1" + strings.Repeat("0", 100000),
	} {
		if n, e := Parse(s); n != 0 || e != api.ErrOver {
			t.Errorf("Parse(%.40q) = %d, %d; want 0, ErrOver", s, n, e)
		}
	}
}

// TestParseShortTexts goes through all texts of up to 4 of these bytes: an
// amount's text is just what the library prints of it.
func TestParseShortTexts(t *testing.T) {
	texts := []string{""}
	for range 4 {
		for _, s := range slices.Clone(texts) {
			for _, b := range "-+019a _" {
				texts = append(texts, s+string(b))
			}
		}
		slices.Sort(texts)
		texts = slices.Compact(texts)
	}
	for _, s := range texts {
		want, err := strconv.ParseInt(s, 10, 64)
		wantE := api.OK
		if err != nil || strconv.FormatInt(want, 10) != s {
			want, wantE = 0, api.ErrForm
		}
		if n, e := Parse(s); n != want || e != wantE {
			t.Errorf("Parse(%q) = %d, %d; want %d, %d", s, n, e, want, wantE)
		}
	}
}

func TestBackFromAdd(t *testing.T) {
	for _, a := range amounts() {
		for _, b := range amounts() {
			if sum, e := Add(a, b); e == api.OK {
				if n, e := Sub(sum, b); n != a || e != api.OK {
					t.Errorf("%d and %d, less %d: %d, %d", a, b, b, n, e)
				}
			}
			if rest, e := Sub(a, b); e == api.OK {
				if n, e := Add(rest, b); n != a || e != api.OK {
					t.Errorf("%d less %d, and %d: %d, %d", a, b, b, n, e)
				}
			}
		}
		if other, e := Neg(a); e == api.OK {
			if n, e := Neg(other); n != a || e != api.OK {
				t.Errorf("Neg of Neg of %d: %d, %d", a, n, e)
			}
		}
	}
}

func TestBackFromTexts(t *testing.T) {
	for _, a := range amounts() {
		if n, e := Parse(Print(a)); n != a || e != api.OK {
			t.Errorf("Parse(%q) = %d, %d", Print(a), n, e)
		}
	}
	for _, s := range []string{"0", "1", "-1", "10", "-305", "9223372036854775807", "-9223372036854775808"} {
		if n, e := Parse(s); e != api.OK || Print(n) != s {
			t.Errorf("%q came back as %q, %d", s, Print(n), e)
		}
	}
}

// FuzzParse holds Parse against numbers of any size.
func FuzzParse(f *testing.F) {
	for _, s := range []string{"", "0", "-0", "012", "-12", "9223372036854775808", "-9223372036854775808", "1_0"} {
		f.Add(s)
	}
	f.Fuzz(func(t *testing.T, s string) {
		var want int64
		wantE := api.ErrForm
		if wide, ok := new(big.Int).SetString(s, 10); ok && wide.String() == s {
			want, wantE = fits(wide)
		}
		if n, e := Parse(s); n != want || e != wantE {
			t.Errorf("Parse(%q) = %d, %d; want %d, %d", s, n, e, want, wantE)
		}
	})
}

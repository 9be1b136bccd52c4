package tests

import (
	"math"
	"math/big"
	"strconv"
	"strings"
	"testing"

	"loop.example/g03006/impl"
)

// edgeInts are the integers around which the functions of chapter 1 change their answers.
func edgeInts() []int {
	return []int{
		math.MinInt, math.MinInt + 1, -impl.MaxValue - 1, -impl.MaxValue, -impl.MaxValue + 1, -120, -7, -3, -2, -1,
		0, 1, 2, 3, 6, 7, 9, 10, 17, 99, 100, 999, 1000,
		impl.MaxValue - 1, impl.MaxValue, impl.MaxValue + 1, 10 * impl.MaxValue, math.MaxInt - 1, math.MaxInt,
	}
}

func wantParsed(t *testing.T, s string, want int) {
	t.Helper()
	if n, ok := impl.ParseInt(s); n != want || !ok {
		t.Errorf("ParseInt(%q) = %d, %v; want %d, true", s, n, ok, want)
	}
}

func wantRejected(t *testing.T, s string) {
	t.Helper()
	if n, ok := impl.ParseInt(s); n != 0 || ok {
		t.Errorf("ParseInt(%q) = %d, %v; want 0, false", s, n, ok)
	}
}

func TestMaxValue(t *testing.T) {
	if impl.MaxValue != 1000000000000 {
		t.Error(impl.MaxValue)
	}
}

func TestFormatInt(t *testing.T) {
	cases := []struct {
		n    int
		want string
	}{
		{0, "0"}, {7, "7"}, {10, "10"}, {120, "120"}, {-1, "-1"}, {-3, "-3"}, {-10, "-10"},
		{impl.MaxValue, "1000000000000"}, {-impl.MaxValue, "-1000000000000"},
		{math.MaxInt, "9223372036854775807"}, {math.MinInt + 1, "-9223372036854775807"}, {math.MinInt, "-9223372036854775808"},
	}
	for _, c := range cases {
		if got := impl.FormatInt(c.n); got != c.want {
			t.Errorf("FormatInt(%d) = %q; want %q", c.n, got, c.want)
		}
	}
}

// Promise 1: what FormatInt writes for a value is parsed to this value.
func TestParseIntInvertsFormatInt(t *testing.T) {
	for n := range 2000 {
		wantParsed(t, impl.FormatInt(n), n)
	}
	for power := 1; power <= impl.MaxValue; power *= 10 {
		wantParsed(t, strconv.Itoa(power-1), power-1)
		wantParsed(t, strconv.Itoa(power), power)
	}
	wantParsed(t, "17", 17)
	wantParsed(t, "123456789012", 123456789012)
	wantParsed(t, "999999999999", impl.MaxValue-1)
	wantParsed(t, "1000000000000", impl.MaxValue)
}

// Promise 1: an integer out of range is not parsed, though FormatInt writes it.
func TestParseIntRejectsOutOfRange(t *testing.T) {
	for _, n := range edgeInts() {
		if n < 0 || n > impl.MaxValue {
			wantRejected(t, impl.FormatInt(n))
		}
	}
	for _, s := range []string{
		"1000000000001", "1000000000010", "9999999999999", "10000000000000", "9223372036854775808",
		// These wrap around to 0, 1 and 17 in 64 bits.
		"18446744073709551616", "18446744073709551617", "18446744073709551633",
		"1" + strings.Repeat("0", 64), strings.Repeat("9", 10000),
	} {
		wantRejected(t, s)
	}
}

// Promise 1: no other text is parsed.
func TestParseIntRejectsOtherTexts(t *testing.T) {
	for _, s := range []string{
		"", "00", "01", "017", "0000000000000000000017", "01000000000000", "-017",
		"-", "+", "-0", "+0", "-1", "+1", "-17", "+17", "--1", "+-1",
		" ", " 1", "1 ", "1 2", "1\n", "\t1", "1\x00", "\x00",
		"x", "1x", "x1", "1x2", "0x1", "0b1", "0o7", "1_000", "1,000", "1.", ".1", "1.0", "1e3", "/", ":", "1/", "1:",
		"٣", "1٣", "１", "\xff", "1\xff", "\xb1",
		"1000000000000x", "x1000000000000", "1000000000000 ",
	} {
		wantRejected(t, s)
	}
}

// Promise 1, over all short texts: ParseInt answers just for those that FormatInt writes.
func TestParseIntOnAllShortTexts(t *testing.T) {
	written := map[string]int{}
	for n := range 1000 {
		written[strconv.Itoa(n)] = n
	}
	texts := []string{""}
	for from := 0; len(texts[from]) < 3; from++ {
		for _, c := range "0123456789+-_ ./:x" {
			texts = append(texts, texts[from]+string(c))
		}
	}
	for _, s := range texts {
		if n, ok := written[s]; ok {
			wantParsed(t, s, n)
		} else {
			wantRejected(t, s)
		}
	}
	for c := range 256 {
		if c < '0' || c > '9' {
			wantRejected(t, string([]byte{byte(c)}))
			wantRejected(t, string([]byte{'1', byte(c)}))
		}
	}
}

func TestMinAndMax(t *testing.T) {
	for _, a := range edgeInts() {
		for _, b := range edgeInts() {
			least, greatest := a, b
			if b < a {
				least, greatest = b, a
			}
			if got := impl.Min(a, b); got != least {
				t.Errorf("Min(%d, %d) = %d; want %d", a, b, got, least)
			}
			if got := impl.Max(a, b); got != greatest {
				t.Errorf("Max(%d, %d) = %d; want %d", a, b, got, greatest)
			}
		}
	}
}

func TestCeilDiv(t *testing.T) {
	const most = impl.MaxValue
	cases := []struct{ a, b, want int }{
		{7, 3, 3}, {6, 3, 2}, {8, 3, 3}, {1, 3, 1}, {0, 3, 0}, {5, 1, 5}, {1, 1, 1},
		{0, 1, 0}, {0, most, 0}, {1, most, 1}, {most, 1, most}, {most, most, 1},
		{most, 2, most / 2}, {most, most - 1, 2}, {most - 1, most, 1}, {most, 3, 333333333334},
		{-1, 1, 0}, {-1, 2, 0}, {-7, 3, 0}, {most + 1, 1, 0}, {most + 1, 2, 0}, {math.MaxInt, 2, 0}, {math.MinInt, 1, 0}, {math.MinInt, 2, 0},
		{7, 0, 0}, {7, -1, 0}, {7, -3, 0}, {7, most + 1, 0}, {7, math.MaxInt, 0}, {7, math.MinInt, 0},
		{0, 0, 0}, {-6, -3, 0}, {math.MinInt, -1, 0}, {math.MaxInt, math.MaxInt, 0}, {most + 1, most + 1, 0},
	}
	for _, c := range cases {
		if got := impl.CeilDiv(c.a, c.b); got != c.want {
			t.Errorf("CeilDiv(%d, %d) = %d; want %d", c.a, c.b, got, c.want)
		}
	}
}

// The quotient rounded up is the least count of parts of size b that hold a.
func TestCeilDivIsLeast(t *testing.T) {
	for a := range 60 {
		for b := 1; b < 20; b++ {
			n := impl.CeilDiv(a, b)
			if n < 0 || n*b < a || n > 0 && (n-1)*b >= a {
				t.Errorf("CeilDiv(%d, %d) = %d", a, b, n)
			}
		}
	}
}

func TestMod(t *testing.T) {
	const most = impl.MaxValue
	cases := []struct{ p, q, want int }{
		{15, 7, 1}, {14, 7, 0}, {6, 7, 6}, {7, 7, 0}, {0, 7, 0}, {5, 1, 0}, {-5, 1, 0},
		{-1, 7, 6}, {-6, 7, 1}, {-7, 7, 0}, {-8, 7, 6}, {-14, 7, 0}, {-15, 7, 6},
		{most, most, 0}, {most - 1, most, most - 1}, {-1, most, most - 1}, {most + 1, most, 1}, {-most - 1, most, most - 1},
		{math.MaxInt, 10, 7}, {math.MinInt, 10, 2}, {math.MinInt, 1, 0}, {math.MinInt, 2, 0},
		{3, 0, 0}, {-3, 0, 0}, {3, -1, 0}, {3, -7, 0}, {-3, -7, 0}, {3, most + 1, 0}, {-3, most + 1, 0},
		{3, math.MaxInt, 0}, {3, math.MinInt, 0}, {math.MinInt, -1, 0}, {math.MinInt, math.MinInt, 0},
	}
	for _, c := range cases {
		if got := impl.Mod(c.p, c.q); got != c.want {
			t.Errorf("Mod(%d, %d) = %d; want %d", c.p, c.q, got, c.want)
		}
	}
}

// big.Int's Mod is Euclidean, as the document's Mod is for a positive q.
func TestModIsEuclidean(t *testing.T) {
	for _, p := range edgeInts() {
		for _, q := range edgeInts() {
			want := 0
			if q >= 1 && q <= impl.MaxValue {
				want = int(new(big.Int).Mod(big.NewInt(int64(p)), big.NewInt(int64(q))).Int64())
			}
			if got := impl.Mod(p, q); got != want {
				t.Errorf("Mod(%d, %d) = %d; want %d", p, q, got, want)
			}
		}
	}
}

func TestInRange(t *testing.T) {
	cases := []struct {
		n, low, high int
		want         bool
	}{
		{2, 2, 3, true}, {3, 2, 3, true}, {1, 2, 3, false}, {4, 2, 3, false}, {5, 2, 9, true},
		{2, 2, 2, true}, {1, 2, 2, false}, {3, 2, 2, false}, {-2, -3, -1, true}, {0, -3, -1, false}, {-4, -3, -1, false},
		{3, 4, 2, false}, {2, 4, 2, false}, {4, 4, 2, false}, {1, 4, 2, false}, {5, 4, 2, false},
		{math.MinInt, math.MinInt, math.MaxInt, true}, {math.MaxInt, math.MinInt, math.MaxInt, true},
		{0, math.MinInt, math.MaxInt, true}, {0, math.MaxInt, math.MinInt, false},
	}
	for _, c := range cases {
		if got := impl.InRange(c.n, c.low, c.high); got != c.want {
			t.Errorf("InRange(%d, %d, %d) = %v; want %v", c.n, c.low, c.high, got, c.want)
		}
	}
}

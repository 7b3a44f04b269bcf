package word

import (
	"math"
	"math/big"
	"strconv"
	"strings"
	"testing"

	"lockstitch/api"
)

func wantNumber(t *testing.T, w string, want int64, wantE api.Errno) {
	t.Helper()
	if n, e := Number(w); n != want || e != wantE {
		t.Errorf("Number(%.60q) = %d, %d; want %d, %d", w, n, e, want, wantE)
	}
}

// P2.2.
func TestNumber(t *testing.T) {
	for w, n := range map[string]int64{
		"0": 0, "1": 1, "9": 9, "10": 10, "42": 42, "100": 100, "1000000007": 1000000007,
		"-1": -1, "-9": -9, "-10": -10, "-42": -42, "-100": -100, "255": 255, "-128": -128,
	} {
		wantNumber(t, w, n, api.OK)
	}
}

// P2.2: the least and the greatest int64, and those next to them.
func TestNumberAtTheEdges(t *testing.T) {
	wantNumber(t, "9223372036854775806", math.MaxInt64-1, api.OK)
	wantNumber(t, "9223372036854775807", math.MaxInt64, api.OK)
	wantNumber(t, "9223372036854775808", 0, api.ErrBig)
	wantNumber(t, "9223372036854775809", 0, api.ErrBig)
	wantNumber(t, "-9223372036854775807", math.MinInt64+1, api.OK)
	wantNumber(t, "-9223372036854775808", math.MinInt64, api.OK)
	wantNumber(t, "-9223372036854775809", 0, api.ErrBig)
	wantNumber(t, "-9223372036854775810", 0, api.ErrBig)
}

// P2.2: no number of digits makes it small again, nor is there a limit to them as to a word's bytes.
func TestNumberBig(t *testing.T) {
	for _, w := range []string{
		"9999999999999999999", "10000000000000000000",
		"18446744073709551615", "18446744073709551616", "18446744073709551617",
		"36893488147419103233", "340282366920938463463374607431768211457",
	} {
		wantNumber(t, w, 0, api.ErrBig)
		wantNumber(t, "-"+w, 0, api.ErrBig)
	}
	for _, n := range []int{19, 20, 29, 30, 31, 64, 100000} {
		wantNumber(t, "1"+strings.Repeat("0", n), 0, api.ErrBig)
		wantNumber(t, "-1"+strings.Repeat("0", n), 0, api.ErrBig)
	}
}

// P2.2, example 1 (-07).
func TestNumberWithoutItsForm(t *testing.T) {
	for _, w := range []string{
		"", "-", "--", "--1", "-0", "-00", "00", "000", "01", "-01", "07", "-07", "0123", "00000000000000000000",
		"+", "+0", "+1", "-+1", "+-1", "1-", "0-", "1-1", "1+1", " ", " 1", "1 ", "- 1", "-1 ", "\n", "1\n",
		"a", "1a", "a1", "-a", "-1a", "1e3", "0x1", "0b1", "0o7", "1_0", "1.0", "1.", ".1", "1,0",
		"inf", "nan", "A", "1\x00", "\x00", "\xff", "1\xff", "٣", "１", "−1", "–1",
	} {
		wantNumber(t, w, 0, api.ErrForm)
	}
}

// P2.2 and R2: that it is no decimal number is named first.
func TestNumberBigAndWithoutItsForm(t *testing.T) {
	for _, w := range []string{
		"9223372036854775808a", "a9223372036854775808", "09223372036854775808", "-09223372036854775809",
		"+9223372036854775808", "--9223372036854775809", "9223372036854775808 ", "92233720368547758080-",
		"0" + strings.Repeat("1", 1000), strings.Repeat("1", 1000) + "x", "-" + strings.Repeat("0", 1000),
	} {
		wantNumber(t, w, 0, api.ErrForm)
	}
}

// P2.2: each byte alone, ahead of a digit, and behind one.
func TestNumberEachByte(t *testing.T) {
	for b := range 256 {
		c := string([]byte{byte(b)})
		digit, form := int64(b)-'0', api.ErrForm
		if digit < 0 || digit > 9 {
			digit = 0
		} else {
			form = api.OK
		}
		wantNumber(t, c, digit, form)
		if form == api.OK {
			wantNumber(t, "7"+c, 70+digit, api.OK)
		} else {
			wantNumber(t, "7"+c, 0, api.ErrForm)
		}
		switch {
		case c == "-":
			wantNumber(t, c+"7", -7, api.OK)
		case digit > 0:
			wantNumber(t, c+"7", digit*10+7, api.OK)
		default:
			wantNumber(t, c+"7", 0, api.ErrForm)
		}
	}
}

// P2.2: a decimal number is what a number's text is, and nothing else.
func TestNumberOfEachShortWord(t *testing.T) {
	eachText(6, "0129-+a ", func(w string) {
		want, ok := new(big.Int).SetString(w, 10)
		if !ok || want.String() != w {
			wantNumber(t, w, 0, api.ErrForm)
		} else {
			wantNumber(t, w, want.Int64(), api.OK)
		}
	})
}

// P2.2: all the numbers around each edge are told apart.
func TestNumberAroundTheEdges(t *testing.T) {
	for _, edge := range []string{"0", "9223372036854775807", "-9223372036854775808", "18446744073709551616", "-18446744073709551616", "10000000000000000000"} {
		middle, _ := new(big.Int).SetString(edge, 10)
		for by := int64(-1000); by <= 1000; by++ {
			n := new(big.Int).Add(middle, big.NewInt(by))
			if n.IsInt64() {
				wantNumber(t, n.String(), n.Int64(), api.OK)
			} else {
				wantNumber(t, n.String(), 0, api.ErrBig)
			}
		}
	}
}

// P2.4: numbers come back from their texts.
func TestNumbersComeBack(t *testing.T) {
	back := func(n int64) {
		wantNumber(t, strconv.FormatInt(n, 10), n, api.OK)
	}
	for n := int64(-20000); n <= 20000; n++ {
		back(n)
	}
	for k := range 64 {
		for by := int64(-3); by <= 3; by++ {
			back(int64(1)<<k + by)
			back(-(int64(1) << k) + by)
		}
	}
	for n := int64(1); n <= math.MaxInt64/10; n *= 10 {
		for _, x := range []int64{n, n - 1, n + 1, -n, 1 - n, -1 - n} {
			back(x)
		}
	}
}

// P2.4: and so they do by way of Join and Lines.
func TestNumbersComeBackFromLines(t *testing.T) {
	numbers := []int64{0, 1, -1, 10, -10, math.MaxInt64, math.MinInt64, math.MaxInt64 - 1, math.MinInt64 + 1}
	var words []string
	for _, n := range numbers {
		words = append(words, strconv.FormatInt(n, 10))
	}
	lines, line, e := Lines(Join([][]string{words}))
	if len(lines) != 1 || len(lines[0]) != len(numbers) || line != 0 || e != api.OK {
		t.Fatalf("Lines = %q, %d, %d", lines, line, e)
	}
	for i, w := range lines[0] {
		wantNumber(t, w, numbers[i], api.OK)
	}
}

func FuzzNumber(f *testing.F) {
	for _, w := range []string{"", "0", "-0", "-", "+1", "007", "9223372036854775807", "9223372036854775808", "-9223372036854775808", "1_0", "\xff"} {
		f.Add(w)
	}
	f.Fuzz(func(t *testing.T, w string) {
		n, ok := new(big.Int).SetString(w, 10)
		switch {
		case !ok || n.String() != w:
			wantNumber(t, w, 0, api.ErrForm)
		case !n.IsInt64():
			wantNumber(t, w, 0, api.ErrBig)
		default:
			wantNumber(t, w, n.Int64(), api.OK)
		}
	})
}

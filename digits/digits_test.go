package digits_test

import (
	"fmt"
	"math"
	"math/big"
	"regexp"
	"slices"
	"strings"
	"testing"

	"saturate/api"
	"saturate/digits"
)

var naturals = []uint64{0, 1, 7, 9, 10, 15, 16, 99, 100, 255, 256, 4096, 1<<31 - 1, 1 << 32, 1<<63 - 1, 1 << 63, 1<<63 + 1, math.MaxUint64 - 1, math.MaxUint64}

var integers = []int{0, 1, -1, 9, -9, 10, -10, 123, -4096, math.MaxInt32, math.MinInt32, math.MaxInt - 1, math.MaxInt, math.MinInt + 1, math.MinInt}

// texts yields all texts up to a length from letters that occur in numerals or near them.
func texts(longest int, visit func(s string)) {
	letters := "0179-+ xXafFg_.\t"
	level := []string{""}
	for range longest + 1 {
		var next []string
		for _, s := range level {
			visit(s)
			for _, c := range letters {
				next = append(next, s+string(c))
			}
		}
		level = next
	}
}

// TestPrint checks P2.1.
func TestPrint(t *testing.T) {
	for _, x := range naturals {
		if s := digits.Dec(x); s != fmt.Sprintf("%d", x) {
			t.Errorf("Dec(%d) is %q", x, s)
		}
		if s := digits.Hex(x); s != fmt.Sprintf("%#x", x) {
			t.Errorf("Hex(%d) is %q", x, s)
		}
	}
	for _, n := range integers {
		if s := digits.Int(n); s != fmt.Sprintf("%d", n) {
			t.Errorf("Int(%d) is %q", n, s)
		}
	}
	if digits.Hex(255) != "0xff" || digits.Hex(0) != "0x0" || digits.Dec(0) != "0" || digits.Int(0) != "0" || digits.Int(-7) != "-7" {
		t.Error("examples")
	}
}

var (
	decimal     = regexp.MustCompile(`^(0|[1-9][0-9]*)\z`)
	hexadecimal = regexp.MustCompile(`^0x(0|[1-9a-f][0-9a-f]*)\z`)
	signed      = regexp.MustCompile(`^(0|-?[1-9][0-9]*)\z`)
)

// wantParse says what Parse has to return, by the definitions.
func wantParse(s string) (uint64, api.Errno) {
	x := new(big.Int)
	switch {
	case decimal.MatchString(s):
		x.SetString(s, 10)
	case hexadecimal.MatchString(s):
		x.SetString(s[2:], 16)
	default:
		return 0, api.ErrParse
	}
	if !x.IsUint64() {
		return 0, api.ErrRange
	}
	return x.Uint64(), api.OK
}

func wantParseInt(s string) (int, api.Errno) {
	if !signed.MatchString(s) {
		return 0, api.ErrParse
	}
	n, _ := new(big.Int).SetString(s, 10)
	if !n.IsInt64() {
		return 0, api.ErrRange
	}
	return int(n.Int64()), api.OK
}

func checkParse(t *testing.T, s string) {
	t.Helper()
	x, e := digits.Parse(s)
	if want, wantError := wantParse(s); x != want || e != wantError {
		t.Errorf("Parse(%q) is %d, %d, not %d, %d", s, x, e, want, wantError)
	}
	n, e := digits.ParseInt(s)
	if want, wantError := wantParseInt(s); n != want || e != wantError {
		t.Errorf("ParseInt(%q) is %d, %d, not %d, %d", s, n, e, want, wantError)
	}
}

// TestParse checks P2.2.
func TestParse(t *testing.T) {
	texts(4, func(s string) { checkParse(t, s) })
	for _, s := range []string{
		"007", "0xFF", "0Xff", "0x", "0x00", "0x0f", "-0", "--1", "-01", "+1", "1_000", "1e3", "0b1", "0o7", "- 1", " 1", "1 ", "1\n", "\x00", "\xff1", "١", "1١",
		"18446744073709551615", "18446744073709551616", "18446744073709551620", "99999999999999999999", "99999999999999999999x", "018446744073709551616",
		"0xffffffffffffffff", "0x10000000000000000", "0x1ffffffffffffffff", "0x10000000000000000g", "-0x1", "0x-1",
		"9223372036854775807", "9223372036854775808", "-9223372036854775808", "-9223372036854775809", "-99999999999999999999", "-99999999999999999999x", "-18446744073709551615",
	} {
		checkParse(t, s)
	}
	for c := range 256 {
		b := string([]byte{byte(c)})
		for _, s := range []string{b, b + "1", "1" + b, "-1" + b, "0x" + b, "0x1" + b, "0x" + b + "1"} {
			checkParse(t, s)
		}
	}
	for _, digit := range []string{"1", "9", "f", "x"} {
		long := strings.Repeat(digit, 300)
		for _, s := range []string{long, "-" + long, "0x" + long, "0" + long, long + "g"} {
			checkParse(t, s)
		}
	}
	if x, e := digits.Parse("18446744073709551616"); x != 0 || e != api.ErrRange {
		t.Error("one beyond the greatest number", x, e)
	}
	if n, e := digits.ParseInt("-9223372036854775809"); n != 0 || e != api.ErrRange {
		t.Error("one beyond the least number", n, e)
	}
}

// TestList checks P2.3: List.
func TestList(t *testing.T) {
	for _, c := range []struct {
		list []int
		want string
	}{{nil, ""}, {[]int{}, ""}, {[]int{0}, "0"}, {[]int{-1, 20}, "-1 20"}, {[]int{3, 3, -4}, "3 3 -4"}, {[]int{math.MinInt, 0, math.MaxInt}, "-9223372036854775808 0 9223372036854775807"}} {
		before := slices.Clone(c.list)
		if s := digits.List(c.list...); s != c.want || !slices.Equal(before, c.list) {
			t.Errorf("List of %v is %q, and then the list is %v", before, s, c.list)
		}
	}
}

// TestParseList checks P2.3: ParseList.
func TestParseList(t *testing.T) {
	for _, c := range []struct {
		s    string
		want []int
		e    api.Errno
	}{
		{"", nil, api.OK}, {"0", []int{0}, api.OK}, {"7 -8 0 7", []int{7, -8, 0, 7}, api.OK}, {"-9223372036854775808 9223372036854775807", []int{math.MinInt, math.MaxInt}, api.OK},
		{" ", nil, api.ErrParse}, {"1 ", nil, api.ErrParse}, {" 1", nil, api.ErrParse}, {"1  2", nil, api.ErrParse}, {"   ", nil, api.ErrParse},
		{"1\t2", nil, api.ErrParse}, {"1\n2", nil, api.ErrParse}, {"1,2", nil, api.ErrParse}, {"1 02", nil, api.ErrParse}, {"1 -0", nil, api.ErrParse}, {"1 0x2", nil, api.ErrParse}, {"1 x 2", nil, api.ErrParse},
		{"9223372036854775808", nil, api.ErrRange}, {"5 -9223372036854775809 6", nil, api.ErrRange},
		{"9223372036854775808 x", nil, api.ErrRange}, {"x 9223372036854775808", nil, api.ErrParse}, {"1 9223372036854775808 ", nil, api.ErrRange}, {"1  9223372036854775808", nil, api.ErrParse},
	} {
		if l, e := digits.ParseList(c.s); !slices.Equal(l, c.want) || e != c.e {
			t.Errorf("ParseList(%q) is %v, %d", c.s, l, e)
		}
	}
}

// TestInverse checks P2.4.
func TestInverse(t *testing.T) {
	for _, x := range naturals {
		for _, s := range []string{digits.Dec(x), digits.Hex(x)} {
			if y, e := digits.Parse(s); y != x || e != api.OK {
				t.Errorf("Parse(%q) is %d, %d", s, y, e)
			}
		}
	}
	for i, n := range integers {
		if m, e := digits.ParseInt(digits.Int(n)); m != n || e != api.OK {
			t.Errorf("ParseInt of Int(%d) is %d, %d", n, m, e)
		}
		if l, e := digits.ParseList(digits.List(integers[:i]...)); !slices.Equal(l, integers[:i]) || e != api.OK {
			t.Errorf("ParseList of List of %v is %v, %d", integers[:i], l, e)
		}
	}
	texts(4, func(s string) {
		if x, e := digits.Parse(s); e == api.OK && s != digits.Dec(x) && s != digits.Hex(x) {
			t.Errorf("Parse accepts %q", s)
		}
		if n, e := digits.ParseInt(s); e == api.OK && s != digits.Int(n) {
			t.Errorf("ParseInt accepts %q", s)
		}
		if l, e := digits.ParseList(s); e == api.OK && s != digits.List(l...) {
			t.Errorf("ParseList accepts %q", s)
		}
	})
}

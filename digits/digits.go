// Package digits is layer 2: numerals. See shared/doc/02-digits.md.
package digits

import (
	"strconv"
	"strings"

	"saturate/api"
)

const hexPrefix = "0x"

// Dec is specified in P2.1.
func Dec(x uint64) string {
	return strconv.FormatUint(x, 10)
}

// Hex is specified in P2.1.
func Hex(x uint64) string {
	return hexPrefix + strconv.FormatUint(x, 16)
}

// Int is specified in P2.1.
func Int(n int) string {
	return strconv.Itoa(n)
}

// isNumeral reports whether s consists of the digits of a number, without a
// leading zero. The functions of strconv accept more forms than these.
func isNumeral(s string, digit func(c byte) bool) bool {
	for i := range len(s) {
		if !digit(s[i]) {
			return false
		}
	}
	return s == "0" || s != "" && s[0] != '0'
}

func isDecimalDigit(c byte) bool {
	return '0' <= c && c <= '9'
}

func isHexDigit(c byte) bool {
	return isDecimalDigit(c) || 'a' <= c && c <= 'f'
}

// Parse is specified in P2.2.
func Parse(s string) (uint64, api.Errno) {
	numeral, base, digit := s, 10, isDecimalDigit
	if rest, ok := strings.CutPrefix(s, hexPrefix); ok {
		numeral, base, digit = rest, 16, isHexDigit
	}
	if !isNumeral(numeral, digit) {
		return 0, api.ErrParse
	}
	x, err := strconv.ParseUint(numeral, base, 64)
	if err != nil {
		return 0, api.ErrRange
	}
	return x, api.OK
}

// ParseInt is specified in P2.2.
func ParseInt(s string) (int, api.Errno) {
	size, negative := strings.CutPrefix(s, "-")
	if !isNumeral(size, isDecimalDigit) || negative && size == "0" {
		return 0, api.ErrParse
	}
	n, err := strconv.Atoi(s)
	if err != nil {
		return 0, api.ErrRange
	}
	return n, api.OK
}

// List is specified in P2.3.
func List(l ...int) string {
	var text []byte
	for i, n := range l {
		if i > 0 {
			text = append(text, ' ')
		}
		text = strconv.AppendInt(text, int64(n), 10)
	}
	return string(text)
}

// ParseList is specified in P2.3.
func ParseList(s string) ([]int, api.Errno) {
	if s == "" {
		return nil, api.OK
	}
	var list []int
	for part := range strings.SplitSeq(s, " ") {
		n, e := ParseInt(part)
		if e != api.OK {
			return nil, e
		}
		list = append(list, n)
	}
	return list, api.OK
}

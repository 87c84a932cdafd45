package impl

import (
	"strconv"
	"strings"
)

const (
	maxNumber  = 999999
	maxInteger = 999999999999
)

func FormatInt(n int) string { return strconv.Itoa(n) }

func ParseNumber(s string) (n int, ok bool) {
	defer func() {
		if recover() != nil {
			n, ok = 0, false
		}
	}()
	return integerWithin(s, 0, maxNumber), true
}

func ParseInt(s string) (n int, ok bool) {
	defer func() {
		if recover() != nil {
			n, ok = 0, false
		}
	}()
	return integerWithin(s, -maxInteger, maxInteger), true
}

// integerWithin panics if s is not the text of an integer from low to high;
// the exported functions turn that into their false. Atoi alone would also
// accept a plus sign, leading zeros and "-0", which FormatInt never writes.
func integerWithin(s string, low int, high int) int {
	n, err := strconv.Atoi(s)
	if err != nil || n < low || n > high || FormatInt(n) != s {
		panic("not an integer within the limits")
	}
	return n
}

// SplitByte makes its separator from a slice because string(by) would encode
// a byte from 128 on as the two bytes of a rune.
func SplitByte(s string, by byte) []string {
	return strings.Split(s, string([]byte{by}))
}

func Join(list []string, by string) string { return strings.Join(list, by) }

package nat

import (
	"strconv"
	"strings"
)

const (
	maxRead   = 2000 // bytes of a text that Read takes
	partSize  = 19   // decimal digits that any word has room for
	partScale = 10_000_000_000_000_000_000
	zeros     = "0000000000000000000" // partSize of them
)

// Read returns the number that s is in decimal digits.
func Read(s string) (Nat, bool) {
	if !isDecimal(s) {
		return Nat{}, false
	}
	var w []uint64
	for len(s) > 0 {
		part, scale := uint64(0), uint64(1)
		n := min(len(s), partSize)
		for i := range n {
			part, scale = part*10+uint64(s[i]-'0'), scale*10
		}
		w = trim(scaleWords(w, scale, part))
		s = s[n:]
	}
	return pack(w), true
}

// isDecimal reports whether s is a decimal form that is not too long.
func isDecimal(s string) bool {
	if s == "" || len(s) > maxRead || s[0] == '0' && s != "0" {
		return false
	}
	for i := range len(s) {
		if s[i] < '0' || s[i] > '9' {
			return false
		}
	}
	return true
}

// Text returns a number in decimal digits.
func (a Nat) Text() string {
	if a.high == "" {
		return strconv.FormatUint(a.low, 10)
	}
	var parts []uint64
	w := a.words()
	for len(w) > 0 {
		parts = append(parts, divideByWord(w, partScale))
		w = trim(w)
	}
	return joinParts(parts)
}

// joinParts returns the digits of the parts, the last one first; all but that one have zeros ahead.
func joinParts(parts []uint64) string {
	last := len(parts) - 1
	var b strings.Builder
	b.WriteString(strconv.FormatUint(parts[last], 10))
	for i := range last {
		s := strconv.FormatUint(parts[last-1-i], 10)
		b.WriteString(zeros[len(s):])
		b.WriteString(s)
	}
	return b.String()
}

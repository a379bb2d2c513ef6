package impl

import (
	"iter"
	"strconv"
	"strings"
)

const MaxString = 4000
const MaxDecimal = 999999

// A prime greater than all bytes and prime to the factor: one changed byte changes the sum by a
// number that is not 0 modulo it, and no later step brings two different sums together again.
const checksumModulus = 999979

const checksumFactor = 41

// FormatInt returns the decimal representation of n and true. If n is outside
// -MaxDecimal..MaxDecimal it returns the empty string and false. The representation has no
// leading zeros; a negative number starts with `-`.
func FormatInt(n int) (string, bool) {
	if n < -MaxDecimal || n > MaxDecimal {
		return "", false
	}
	return strconv.Itoa(n), true
}

// ParseInt is the inverse of FormatInt: it returns the integer n for which FormatInt(n) is s,
// and true. For any other string, including strings with leading zeros, a leading `+`, or `-0`,
// it returns 0 and false.
func ParseInt(s string) (int, bool) {
	n, err := strconv.Atoi(s)
	if err != nil {
		return 0, false
	}
	// Atoi also reads spellings that FormatInt never writes, such as "+1", "01" and "-0".
	if t, ok := FormatInt(n); !ok || t != s {
		return 0, false
	}
	return n, true
}

// SplitString splits s, which must have at most MaxString bytes, at every occurrence of the
// single-byte separator sep, and returns the substrings between the separators in order, and
// true. The result has one element more than s has separators, so the empty string yields one
// empty element. If s is too long or sep does not consist of exactly one byte, it returns an
// empty slice and false.
func SplitString(s string, sep string) ([]string, bool) {
	if len(s) > MaxString || len(sep) != 1 {
		return nil, false
	}
	var parts []string
	for part := range piecesOf(s, sep[0]) {
		parts = append(parts, part)
	}
	return parts, true
}

// piecesOf yields the substrings of s between the separators, in order. The last one is yielded
// even if it is empty: this is what makes one more than there are separators.
func piecesOf(s string, sep byte) iter.Seq[string] {
	return func(yield func(string) bool) {
		start := 0
		for i := range len(s) {
			if s[i] != sep {
				continue
			}
			if !yield(s[start:i]) {
				return
			}
			start = i + 1
		}
		yield(s[start:])
	}
}

// JoinStrings is the inverse of SplitString: it returns the elements of parts concatenated with
// sep between consecutive elements, and true. It returns the empty string and false if parts is
// empty, if sep does not consist of exactly one byte, if an element contains sep, or if the
// result would have more than MaxString bytes.
func JoinStrings(parts []string, sep string) (string, bool) {
	if len(parts) == 0 || len(sep) != 1 || !canJoin(parts, sep[0]) {
		return "", false
	}
	return strings.Join(parts, sep), true
}

// canJoin reports whether splitting the joined parts gives them back: none contains the
// separator, and the result is short enough to be split. The length is checked before a part is
// read, so that parts of any length cost no more than MaxString bytes of reading.
func canJoin(parts []string, sep byte) bool {
	fits := true
	size := len(parts) - 1
search:
	for _, part := range parts {
		size += len(part)
		if size > MaxString {
			fits = false
			break search
		}
		for i := range len(part) {
			if part[i] == sep {
				fits = false
				break search
			}
		}
	}
	return fits
}

// LessString reports whether a is lexicographically less than b, comparing byte by byte; a
// proper prefix is less than the longer string.
func LessString(a string, b string) bool {
	return a < b
}

// Checksum returns the checksum of s and true. The checksum starts at 7 and is updated for
// every byte c of s, in order, to (41*h + c + 1) modulo 999979. If s has more than MaxString
// bytes, it returns 0 and false.
func Checksum(s string) (int, bool) {
	if len(s) > MaxString {
		return 0, false
	}
	h := 7
	for i := range len(s) {
		h = (checksumFactor*h + int(s[i]) + 1) % checksumModulus
	}
	return h, true
}

// AppendChecksum returns s followed by `#` and the decimal checksum of s, and true. It returns
// the empty string and false if s contains `#` or if s or the result has more than MaxString
// bytes.
func AppendChecksum(s string) (string, bool) {
	h, ok := Checksum(s)
	if !ok {
		return "", false
	}
	digits, ok := FormatInt(h)
	if !ok {
		return "", false
	}
	// JoinStrings refuses just what must be refused here: a `#` in s, and too long a result.
	return JoinStrings([]string{s, digits}, "#")
}

// VerifyChecksum is the inverse of AppendChecksum: it returns the string t for which
// AppendChecksum(t) is s, and true. If there is no such string, it returns the empty string and
// false.
func VerifyChecksum(s string) (string, bool) {
	// A checksummed string has no `#` before the one that was appended, so the first is that one.
	body, _, found := strings.Cut(s, "#")
	if !found {
		return "", false
	}
	if sealed, ok := AppendChecksum(body); !ok || sealed != s {
		return "", false
	}
	return body, true
}

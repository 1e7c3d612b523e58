package impl

import (
	"iter"
	"strconv"
	"strings"
)

const MaxString = 4000
const MaxDecimal = 999999

const (
	checksumStart   = 7
	checksumFactor  = 41
	checksumModulus = 999979
	checksumMark    = "#"
)

// FormatInt returns the decimal representation of n and true. If n is outside
// -MaxDecimal..MaxDecimal it returns the empty string and false. The representation has no
// leading zeros; a negative number starts with `-`.
func FormatInt(n int) (string, bool) {
	if n < -MaxDecimal || n > MaxDecimal {
		return "", false
	}
	return strconv.Itoa(n), true
}

// ParseInt is the inverse of FormatInt: it returns the integer n for which FormatInt(n) is s,
// and true. For any other string, including strings with leading zeros, a leading `+`, or `-0`,
// it returns 0 and false.
func ParseInt(s string) (int, bool) {
	n, err := strconv.Atoi(s)
	if err != nil {
		return 0, false
	}
	// Atoi also takes spellings that FormatInt never gives.
	text, ok := FormatInt(n)
	if !ok || text != s {
		return 0, false
	}
	return n, true
}

// SplitString splits s, which must have at most MaxString bytes, at every occurrence of the
// single-byte separator sep, and returns the substrings between the separators in order, and
// true. The result has one element more than s has separators, so the empty string yields one
// empty element. If s is too long or sep does not consist of exactly one byte, it returns an
// empty slice and false.
func SplitString(s string, sep string) ([]string, bool) {
	if len(s) > MaxString || len(sep) != 1 {
		return []string{}, false
	}
	var parts []string
	for piece := range piecesOf(s, sep[0]) {
		parts = append(parts, piece)
	}
	return parts, true
}

// piecesOf yields the substrings of s between the bytes sep, at least one.
func piecesOf(s string, sep byte) iter.Seq[string] {
	return func(yield func(string) bool) {
		start := 0
		for i := range len(s) {
			if s[i] != sep {
				continue
			}
			if !yield(s[start:i]) {
				return
			}
			start = i + 1
		}
		yield(s[start:])
	}
}

// JoinStrings is the inverse of SplitString: it returns the elements of parts concatenated with
// sep between consecutive elements, and true. It returns the empty string and false if parts is
// empty, if sep does not consist of exactly one byte, if an element contains sep, or if the
// result would have more than MaxString bytes.
func JoinStrings(parts []string, sep string) (string, bool) {
	if len(sep) != 1 || !canJoin(parts, sep[0]) {
		return "", false
	}
	return strings.Join(parts, sep), true
}

// canJoin decides before anything is joined, since the result for many long elements might
// not even fit into memory.
func canJoin(parts []string, sep byte) bool {
	// Every element is counted with a separator, which the last one does not have.
	room := MaxString + 1
	joinable := false
elements:
	for _, part := range parts {
		// A shorter first piece means that a separator is inside the element.
		for piece := range piecesOf(part, sep) {
			joinable = len(piece) == len(part) && len(piece) < room
			if !joinable {
				break elements
			}
			room -= len(piece) + 1
		}
	}
	return joinable
}

// LessString reports whether a is lexicographically less than b, comparing byte by byte; a
// proper prefix is less than the longer string.
func LessString(a string, b string) bool { return a < b }

// Checksum returns the checksum of s and true. The checksum starts at 7 and is updated for
// every byte c of s, in order, to (41*h + c + 1) modulo 999979. If s has more than MaxString
// bytes, it returns 0 and false.
func Checksum(s string) (int, bool) {
	if len(s) > MaxString {
		return 0, false
	}
	sum := checksumStart
	for i := range len(s) {
		sum = (checksumFactor*sum + int(s[i]) + 1) % checksumModulus
	}
	return sum, true
}

// AppendChecksum returns s followed by `#` and the decimal checksum of s, and true. It returns
// the empty string and false if s contains `#` or if s or the result has more than MaxString
// bytes.
func AppendChecksum(s string) (string, bool) {
	sum, ok := Checksum(s)
	if !ok {
		return "", false
	}
	digits, ok := FormatInt(sum)
	if !ok {
		return "", false
	}
	return JoinStrings([]string{s, digits}, checksumMark)
}

// VerifyChecksum is the inverse of AppendChecksum: it returns the string t for which
// AppendChecksum(t) is s, and true. If there is no such string, it returns the empty string and
// false.
func VerifyChecksum(s string) (string, bool) {
	text, _, _ := strings.Cut(s, checksumMark)
	sealed, ok := AppendChecksum(text)
	if !ok || sealed != s {
		return "", false
	}
	return text, true
}

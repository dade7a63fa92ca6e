// Package bytes is layer 1: texts that are xored, padded, cut (shared/doc/01-bytes.md).
package bytes

import (
	"hurdle/api"
)

// Xor is a and b byte by byte, as long as the longer one.
func Xor(a, b string) string {
	return Sum([]string{a, b})
}

// Sum is the Xor of all texts of l.
func Sum(l []string) string {
	// One sum as long as the longest text, rather than a new text for each step: many short texts beside a long one stay cheap.
	sum := make([]byte, longest(l))
	for _, s := range l {
		mix(sum, s)
	}
	return string(sum)
}

// Pad is s with bytes 0 behind it, n bytes in all.
func Pad(s string, n int) (string, api.Errno) {
	if n < 0 || n > api.MaxBytes {
		return "", api.ErrArg
	}
	if len(s) > n {
		return "", api.ErrSize
	}
	return padded(s, n), api.OK
}

// Cut is s in pieces of n bytes each, the last one padded with bytes 0.
func Cut(s string, n int) ([]string, api.Errno) {
	if n < 1 || n > api.MaxBytes {
		return nil, api.ErrArg
	}
	count := (len(s) + n - 1) / n
	pieces := make([]string, count)
	for i := range count {
		from := i * n
		pieces[i] = padded(s[from:min(from+n, len(s))], n)
	}
	return pieces, api.OK
}

// Put is s with t in the place of its bytes from at on; what s has behind t stays.
func Put(s string, at int, t string) (string, api.Errno) {
	if at < 0 {
		return "", api.ErrArg
	}
	// Subtracted, since at and the length of t together may be beyond an int.
	if at > api.MaxBytes-len(t) || len(s) > api.MaxBytes {
		return "", api.ErrSize
	}
	out := make([]byte, max(len(s), at+len(t)))
	lay(out, s)
	lay(out[at:], t)
	return string(out), api.OK
}

// Same is how many bytes from the front are the same in a and b.
func Same(a, b string) int {
	shorter := min(len(a), len(b))
	for i := range shorter {
		if a[i] != b[i] {
			return i
		}
	}
	return shorter
}

// Zero tells whether all bytes of s are 0.
func Zero(s string) bool {
	for i := range len(s) {
		if s[i] != 0 {
			return false
		}
	}
	return true
}

// longest is the length of the longest text of l.
func longest(l []string) int {
	most := 0
	for _, s := range l {
		most = max(most, len(s))
	}
	return most
}

// mix xors s into the front of sum, which is at least as long.
func mix(sum []byte, s string) {
	for i := range len(s) {
		sum[i] ^= s[i]
	}
}

// lay writes s over the front of out, which is at least as long.
func lay(out []byte, s string) {
	for i := range len(s) {
		out[i] = s[i]
	}
}

// padded is Pad without its errors: s has at most n bytes.
func padded(s string, n int) string {
	out := make([]byte, n)
	lay(out, s)
	return string(out)
}

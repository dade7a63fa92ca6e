package sums_test

import (
	"hash/crc32"
	"math"
	"strings"
	"testing"
	"unsafe"

	"hurdle/api"
	"hurdle/sums"
)

const most = api.MaxBytes

// plain is the Sum as the chapter's words tell it, bit by bit.
func plain(s string) uint32 {
	r := uint32(math.MaxUint32)
	for i := 0; i < len(s); i++ {
		r ^= uint32(s[i])
		for range 8 {
			out := r & 1
			r >>= 1
			if out == 1 {
				r ^= 0xEDB88320
			}
		}
	}
	return ^r
}

// row is a text of n bytes of many values, another one for each seed.
func row(n int, seed uint32) string {
	b := make([]byte, n)
	for i := range b {
		seed = seed*1664525 + 1013904223
		b[i] = byte(seed >> 24)
	}
	return string(b)
}

// texts are ordinary ones and those at the edges.
func texts() []string {
	all := []string{"", "a", "abc", "123456789", "\x00", "\x00\x00\x00\x00", "\xff\xff\xff\xff", "\u00e9", row(most, 1), row(most+1, 2)}
	for b := range 256 {
		all = append(all, string([]byte{byte(b)}), string([]byte{byte(b), 0}), string([]byte{255, byte(b)}))
	}
	for n := range 70 {
		all = append(all, row(n, uint32(n)), strings.Repeat("\x00", n))
	}
	return all
}

// turned is s with those of 32 bits from the bit at on turned that are set in bits; the lowest bit of a byte is its first.
func turned(s string, at int, bits uint32) string {
	b := []byte(s)
	for i := range 32 {
		if bits>>i&1 == 1 {
			b[(at+i)/8] ^= 1 << ((at + i) % 8)
		}
	}
	return string(b)
}

func TestSum(t *testing.T) {
	for _, c := range []struct {
		s    string
		want uint32
	}{
		{"", 0},
		{"123456789", 0xCBF43926},
		{"a", 0xE8B7BE43},
		{"\x00", 0xD202EF8D},
		{"\xff\xff\xff\xff", 0xFFFFFFFF},
		{"The quick brown fox jumps over the lazy dog", 0x414FA339},
	} {
		if got := sums.Sum(c.s); got != c.want {
			t.Errorf("Sum(%q) = %#x, want %#x", c.s, got, c.want)
		}
	}
	for _, s := range texts() {
		got := sums.Sum(s)
		if got != plain(s) || got != crc32.ChecksumIEEE([]byte(s)) {
			t.Errorf("Sum of %d bytes = %#x, want %#x", len(s), got, plain(s))
		}
	}
}

func TestMore(t *testing.T) {
	if got := sums.More(sums.Sum("12345"), "6789"); got != 0xCBF43926 {
		t.Errorf("More(Sum(12345), 6789) = %#x", got)
	}
	for _, s := range texts() {
		if got := sums.More(0, s); got != plain(s) {
			t.Errorf("More(0, %d bytes) = %#x, want %#x", len(s), got, plain(s))
		}
		if got := sums.More(plain(s), ""); got != plain(s) {
			t.Errorf("More(Sum of %d bytes, none) = %#x, want %#x", len(s), got, plain(s))
		}
	}
	whole := row(200, 7)
	for i := range len(whole) + 1 {
		if got := sums.More(sums.Sum(whole[:i]), whole[i:]); got != plain(whole) {
			t.Errorf("cut at %d: %#x, want %#x", i, got, plain(whole))
		}
	}
	for _, sum := range []uint32{0, 1, 1 << 31, 0xEDB88320, 0x12345678, math.MaxUint32} {
		for _, s := range []string{"", "a", "\x00", "\xff\x00", row(33, sum)} {
			if got, want := sums.More(sum, s), crc32.Update(sum, crc32.IEEETable, []byte(s)); got != want {
				t.Errorf("More(%#x, %q) = %#x, want %#x", sum, s, got, want)
			}
		}
	}
}

func TestSeal(t *testing.T) {
	for _, c := range []struct{ s, want string }{
		{"", "\x00\x00\x00\x00"},
		{"a", "a\x43\xbe\xb7\xe8"},
		{"123456789", "123456789\x26\x39\xf4\xcb"},
	} {
		if got := sums.Seal(c.s); got != c.want {
			t.Errorf("Seal(%q) = %q, want %q", c.s, got, c.want)
		}
	}
	for _, s := range texts() {
		sum := plain(s)
		want := s + string([]byte{byte(sum), byte(sum >> 8), byte(sum >> 16), byte(sum >> 24)})
		if got := sums.Seal(s); got != want {
			t.Errorf("Seal of %d bytes is another one: %q", len(s), got[len(got)-4:])
		}
	}
}

func TestOpenGivesBack(t *testing.T) {
	for _, s := range texts() {
		if got, err := sums.Open(sums.Seal(s)); got != s || err != api.OK {
			t.Errorf("Open(Seal of %d bytes): %d bytes, %d", len(s), len(got), err)
		}
	}
	if got, err := sums.Open(sums.Seal(sums.Seal("ab"))); got != sums.Seal("ab") || err != api.OK {
		t.Errorf("Open of what is sealed twice = %q, %d", got, err)
	}
}

func TestOpenRefuses(t *testing.T) {
	for _, c := range []struct {
		s    string
		want api.Errno
	}{
		{"", api.ErrSize},
		{"\x00", api.ErrSize},
		{"abc", api.ErrSize},
		{"\x00\x00\x00", api.ErrSize},
		{"abcd", api.ErrSum},
		{"\x00\x00\x00\x01", api.ErrSum},
		{"\x00\x00\x00\x00\x00", api.ErrSum},
		{"a\xe8\xb7\xbe\x43", api.ErrSum}, // the highest byte first
		{"b\x43\xbe\xb7\xe8", api.ErrSum},
		{"a\x43\xbe\xb7\xe8\x00", api.ErrSum},
		{"a\xbc\x41\x48\x17", api.ErrSum}, // bits that are not turned at the end
	} {
		if got, err := sums.Open(c.s); got != "" || err != c.want {
			t.Errorf("Open(%q) = %q, %d, want none, %d", c.s, got, err, c.want)
		}
	}
	sealed := sums.Seal("123456789")
	for i := range len(sealed) {
		want := api.ErrSum
		if i < 4 {
			want = api.ErrSize
		}
		if got, err := sums.Open(sealed[:i]); got != "" || err != want {
			t.Errorf("the first %d bytes: %q, %d, want none, %d", i, got, err, want)
		}
	}
}

func TestOpenAnswersNewMemory(t *testing.T) {
	sealed := sums.Seal("abcdefgh")
	text, _ := sums.Open(sealed)
	if unsafe.StringData(text) == unsafe.StringData(sealed) {
		t.Error("the answer shares memory with what was handed in")
	}
}

func TestBitsSideBySideAreSeen(t *testing.T) {
	for _, s := range []string{"", "a", "abcd", row(12, 3), strings.Repeat("\x00", 9)} {
		sealed := sums.Seal(s)
		patterns := []uint32{1, math.MaxUint32, 0xEDB88320, 0xDB710641, 0x04C11DB7, 0x80000001, 0x55555555, 0xFF}
		for i := range 32 {
			for j := range i {
				patterns = append(patterns, 1<<i|1<<j)
			}
		}
		seed := uint32(9)
		for range 200 {
			seed = seed*1664525 + 1013904223
			patterns = append(patterns, seed|1)
		}
		for at := range len(sealed)*8 - 31 {
			for _, p := range patterns {
				if got, err := sums.Open(turned(sealed, at, p)); got != "" || err != api.ErrSum {
					t.Fatalf("%q, bits %#x turned at %d: %q, %d", s, p, at, got, err)
				}
			}
		}
	}
}

func TestJoin(t *testing.T) {
	long := row(most, 11)
	pairs := [][2]string{{"12345", "6789"}, {"", ""}, {"a", ""}, {"", "a"}, {"", long}, {"a", long}, {long, "a"}, {long, long}, {"\x00", "\x00\x00"}, {"ab", long[:most-1]}}
	for n := range 300 {
		pairs = append(pairs, [2]string{row(5, uint32(n)), row(n, uint32(n)+1)})
	}
	for i := range 16 {
		pairs = append(pairs, [2]string{"xyz", row(1<<i, 5)}, [2]string{"xyz", row(1<<i+1, 6)})
	}
	for _, p := range pairs {
		got, err := sums.Join(plain(p[0]), plain(p[1]), len(p[1]))
		if want := plain(p[0] + p[1]); got != want || err != api.OK {
			t.Errorf("Join of %d and %d bytes = %#x, %d, want %#x", len(p[0]), len(p[1]), got, err, want)
		}
	}
}

func TestJoinOfAnySum(t *testing.T) {
	for _, a := range []uint32{0, 1, 2, 1 << 31, 0x12345678, 0xEDB88320, math.MaxUint32} {
		for _, b := range []string{"", "a", "\x00\xff", row(777, a), row(most, a)} {
			got, err := sums.Join(a, plain(b), len(b))
			if want := crc32.Update(a, crc32.IEEETable, []byte(b)); got != want || err != api.OK {
				t.Errorf("Join(%#x, .., %d) = %#x, %d, want %#x", a, len(b), got, err, want)
			}
		}
	}
}

func TestJoinRefuses(t *testing.T) {
	for _, n := range []int{-1, most + 1, math.MinInt, math.MaxInt, -most, math.MaxInt32, math.MinInt32, 1 << 32, 1 << 61} {
		if got, err := sums.Join(5, 7, n); got != 0 || err != api.ErrArg {
			t.Errorf("Join(5, 7, %d) = %d, %d, want 0, ErrArg", n, got, err)
		}
	}
}

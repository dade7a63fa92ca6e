package bytes_test

import (
	"math"
	"slices"
	"strings"
	"testing"
	"unsafe"

	"hurdle/api"
	"hurdle/bytes"
)

const most = api.MaxBytes

func zeros(n int) string { return strings.Repeat("\x00", n) }

func many(n int) string { return strings.Repeat("x", n) }

// short shows a text in a failure without filling the screen.
func short(s string) string {
	if len(s) > 20 {
		return s[:20] + ".."
	}
	return s
}

// small gives all texts of at most three bytes, each of them 0, 1 or 255.
func small() []string {
	all := []string{""}
	from := 0
	for range 3 {
		to := len(all)
		for _, s := range all[from:to] {
			for _, b := range []string{"\x00", "\x01", "\xff"} {
				all = append(all, s+b)
			}
		}
		from = to
	}
	return all
}

// byteAt is the byte of s at i, 0 beyond its end.
func byteAt(s string, i int) byte {
	if i < len(s) {
		return s[i]
	}
	return 0
}

func TestXor(t *testing.T) {
	for _, c := range []struct{ a, b, want string }{
		{"", "", ""},
		{"a", "", "a"},
		{"", "a", "a"},
		{"a", "a", "\x00"},
		{"a", "ab", "\x00b"},
		{"ab", "a", "\x00b"},
		{"ab", "c\x00", "\x02b"},
		{"\x0f\xf0", "\xff\xff", "\xf0\x0f"},
		{"abc", zeros(5), "abc\x00\x00"},
		{zeros(2), "", zeros(2)},
		{many(most + 1), many(most), zeros(most) + "x"},
	} {
		if got := bytes.Xor(c.a, c.b); got != c.want {
			t.Errorf("Xor(%q, %q): %q, want %q", short(c.a), short(c.b), short(got), short(c.want))
		}
	}
}

func TestXorOfAllBytes(t *testing.T) {
	for a := range 256 {
		for b := range 256 {
			got := bytes.Xor(string([]byte{byte(a)}), string([]byte{byte(b)}))
			if got != string([]byte{byte(a ^ b)}) {
				t.Fatalf("Xor of bytes %d and %d: %q", a, b, got)
			}
		}
	}
}

func TestXorOfSmallTexts(t *testing.T) {
	for _, a := range small() {
		for _, b := range small() {
			want := make([]byte, max(len(a), len(b)))
			for i := range want {
				want[i] = byteAt(a, i) ^ byteAt(b, i)
			}
			if got := bytes.Xor(a, b); got != string(want) {
				t.Fatalf("Xor(%q, %q): %q, want %q", a, b, got, want)
			}
		}
	}
}

func TestSum(t *testing.T) {
	for _, c := range []struct {
		l    []string
		want string
	}{
		{nil, ""},
		{[]string{}, ""},
		{[]string{""}, ""},
		{[]string{"", ""}, ""},
		{[]string{"abc"}, "abc"},
		{[]string{"ab", "c\x00"}, "\x02b"},
		{[]string{"ab", "c\x00", "\x02b"}, "\x00\x00"},
		{[]string{"a", "bcd", "ef"}, "f\x05d"},
		{[]string{"bcd", "a", "ef"}, "f\x05d"},
		{[]string{"a", "ef", "bcd"}, "f\x05d"},
		{[]string{"a", "a", "a"}, "a"},
		{[]string{"", zeros(4), "x"}, "x" + zeros(3)},
		{[]string{many(most + 1), many(most + 1), "y"}, "y" + zeros(most)},
	} {
		if got := bytes.Sum(c.l); got != c.want {
			t.Errorf("Sum of %d texts: %q, want %q", len(c.l), short(got), short(c.want))
		}
	}
}

func TestSumIsXorOfAll(t *testing.T) {
	all := small()
	for i := range all {
		for j := range all {
			l := []string{all[i], all[j], all[(i+j)%len(all)]}
			want := bytes.Xor(bytes.Xor(l[0], l[1]), l[2])
			if got := bytes.Sum(l); got != want {
				t.Fatalf("Sum(%q): %q, want %q", l, got, want)
			}
		}
	}
}

// A long text beside many short ones ends soon only if the long one is not gone over for each of them.
func TestSumOfManyTexts(t *testing.T) {
	l := make([]string, 1<<20)
	l[0] = many(1 << 20)
	for i := range l[1:] {
		l[i+1] = "\x01"
	}
	if got := bytes.Sum(l); got != "y"+many(1<<20-1) {
		t.Errorf("Sum of many: %q", short(got))
	}
}

func TestSumLeavesItsList(t *testing.T) {
	whole := []string{"ab", "c", "behind"}
	bytes.Sum(whole[:2])
	if !slices.Equal(whole, []string{"ab", "c", "behind"}) {
		t.Errorf("the list became %q", whole)
	}
}

func TestPad(t *testing.T) {
	for _, c := range []struct {
		s    string
		n    int
		want string
		err  api.Errno
	}{
		{"", 0, "", api.OK},
		{"", 1, "\x00", api.OK},
		{"a", 1, "a", api.OK},
		{"a", 3, "a\x00\x00", api.OK},
		{"abc", 3, "abc", api.OK},
		{"\x00", 2, "\x00\x00", api.OK},
		{"", most, zeros(most), api.OK},
		{"a", most, "a" + zeros(most-1), api.OK},
		{many(most), most, many(most), api.OK},
		{"a", 0, "", api.ErrSize},
		{"abc", 2, "", api.ErrSize},
		{zeros(2), 1, "", api.ErrSize},
		{many(most), most - 1, "", api.ErrSize},
		{many(most + 1), most, "", api.ErrSize},
		{"", -1, "", api.ErrArg},
		{"a", -1, "", api.ErrArg},
		{"", most + 1, "", api.ErrArg},
		{"a", most + 1, "", api.ErrArg},
		{many(most + 1), most + 1, "", api.ErrArg},
		{many(most + 2), most + 1, "", api.ErrArg},
		{"a", math.MinInt, "", api.ErrArg},
		{"a", math.MaxInt, "", api.ErrArg},
	} {
		got, err := bytes.Pad(c.s, c.n)
		if got != c.want || err != c.err {
			t.Errorf("Pad(%q, %d): %q and %d, want %q and %d", short(c.s), c.n, short(got), err, short(c.want), c.err)
		}
	}
}

func TestCut(t *testing.T) {
	for _, c := range []struct {
		s    string
		n    int
		want []string
		err  api.Errno
	}{
		{"", 1, nil, api.OK},
		{"", most, nil, api.OK},
		{"a", 1, []string{"a"}, api.OK},
		{"abc", 1, []string{"a", "b", "c"}, api.OK},
		{"abc", 2, []string{"ab", "c\x00"}, api.OK},
		{"abc", 3, []string{"abc"}, api.OK},
		{"abc", 5, []string{"abc\x00\x00"}, api.OK},
		{"abcd", 2, []string{"ab", "cd"}, api.OK},
		{"abcde", 3, []string{"abc", "de\x00"}, api.OK},
		{"\x00", 1, []string{"\x00"}, api.OK},
		{"ab\x00", 2, []string{"ab", "\x00\x00"}, api.OK},
		{"a", most, []string{"a" + zeros(most-1)}, api.OK},
		{many(most), most, []string{many(most)}, api.OK},
		{many(most + 1), most, []string{many(most), "x" + zeros(most-1)}, api.OK},
		{"", 0, nil, api.ErrArg},
		{"abc", 0, nil, api.ErrArg},
		{"", -1, nil, api.ErrArg},
		{"abc", -1, nil, api.ErrArg},
		{"", most + 1, nil, api.ErrArg},
		{"abc", most + 1, nil, api.ErrArg},
		{many(most + 2), most + 1, nil, api.ErrArg},
		{"abc", math.MinInt, nil, api.ErrArg},
		{"abc", math.MaxInt, nil, api.ErrArg},
	} {
		got, err := bytes.Cut(c.s, c.n)
		if !slices.Equal(got, c.want) || err != c.err {
			t.Errorf("Cut(%q, %d): %d pieces and %d, want %d and %d", short(c.s), c.n, len(got), err, len(c.want), c.err)
		}
	}
}

func TestCutIsWhole(t *testing.T) {
	s := "a\x00bcdefgh\x00"
	for n := range len(s) + 3 {
		if n == 0 {
			continue
		}
		pieces, _ := bytes.Cut(s, n)
		for i, p := range pieces {
			if len(p) != n {
				t.Errorf("Cut to %d: piece %d has %d bytes", n, i, len(p))
			}
		}
		whole := strings.Join(pieces, "")
		if len(pieces) != (len(s)+n-1)/n || whole != s+zeros(len(whole)-len(s)) {
			t.Errorf("Cut to %d: %q", n, pieces)
		}
	}
}

func TestPut(t *testing.T) {
	for _, c := range []struct {
		s    string
		at   int
		t    string
		want string
	}{
		{"abc", 5, "x", "abc\x00\x00x"},
		{"abc", 3, "x", "abcx"},
		{"abc", 2, "xy", "abxy"},
		{"abc", 0, "x", "xbc"},
		{"abc", 1, "x", "axc"},
		{"abc", 1, "\x00", "a\x00c"},
		{"abc", 0, "xyz", "xyz"},
		{"abc", 0, "wxyz", "wxyz"},
		{"abc", 1, "", "abc"},
		{"abc", 3, "", "abc"},
		{"abc", 5, "", "abc\x00\x00"},
		{"", 0, "", ""},
		{"", 0, "x", "x"},
		{"", 2, "x", "\x00\x00x"},
		{"", 2, "", "\x00\x00"},
		{"", most, "", zeros(most)},
		{"", most - 1, "x", zeros(most-1) + "x"},
		{"", 0, many(most), many(most)},
		{"ab", 1, many(most - 1), "a" + many(most-1)},
		{zeros(most), 0, "x", "x" + zeros(most-1)},
		{zeros(most), most - 1, "x", zeros(most-1) + "x"},
		{zeros(most), most, "", zeros(most)},
	} {
		got, err := bytes.Put(c.s, c.at, c.t)
		if got != c.want || err != api.OK {
			t.Errorf("Put(%q, %d, %q): %q and %d, want %q", short(c.s), c.at, short(c.t), short(got), err, short(c.want))
		}
	}
}

func TestPutRefuses(t *testing.T) {
	for _, c := range []struct {
		s   string
		at  int
		t   string
		err api.Errno
	}{
		{"", -1, "", api.ErrArg},
		{"abc", -1, "x", api.ErrArg},
		{"abc", math.MinInt, "x", api.ErrArg},
		{many(most + 1), -1, "x", api.ErrArg},
		{"", -1, many(most + 1), api.ErrArg},
		{"", -1, many(most + 2), api.ErrArg},
		{"", most, "x", api.ErrSize},
		{"", most - 1, "xy", api.ErrSize},
		{"", most + 1, "", api.ErrSize},
		{"", 0, many(most + 1), api.ErrSize},
		{"", 1, many(most), api.ErrSize},
		{many(most + 1), 0, "", api.ErrSize},
		{many(most + 1), 0, "x", api.ErrSize},
		{many(most + 1), most + 1, "x", api.ErrSize},
		{"abc", math.MaxInt, "", api.ErrSize},
		{"abc", math.MaxInt, "x", api.ErrSize},
		{"abc", math.MaxInt, many(most + 1), api.ErrSize},
	} {
		got, err := bytes.Put(c.s, c.at, c.t)
		if got != "" || err != c.err {
			t.Errorf("Put(%q, %d, %q): %q and %d, want %d", short(c.s), c.at, short(c.t), short(got), err, c.err)
		}
	}
}

func TestPutOfSmallTexts(t *testing.T) {
	for _, s := range small() {
		for _, x := range small() {
			for at := range 6 {
				want := make([]byte, max(len(s), at+len(x)))
				for i := range want {
					want[i] = byteAt(s, i)
					if i >= at && i < at+len(x) {
						want[i] = x[i-at]
					}
				}
				if got, err := bytes.Put(s, at, x); got != string(want) || err != api.OK {
					t.Fatalf("Put(%q, %d, %q): %q and %d, want %q", s, at, x, got, err, want)
				}
			}
		}
	}
}

func TestSame(t *testing.T) {
	for _, c := range []struct {
		a, b string
		want int
	}{
		{"", "", 0},
		{"", "a", 0},
		{"a", "", 0},
		{"a", "a", 1},
		{"a", "b", 0},
		{"abc", "abd", 2},
		{"abc", "xbc", 0},
		{"abc", "axc", 1},
		{"ab", "abc", 2},
		{"abc", "ab", 2},
		{"a", "a\x00", 1},
		{zeros(3), zeros(2), 2},
		{"\xff\x00", "\xff\x01", 1},
		{many(most + 2), many(most + 1), most + 1},
		{many(most+1) + "a", many(most+1) + "b", most + 1},
	} {
		if got := bytes.Same(c.a, c.b); got != c.want {
			t.Errorf("Same(%q, %q): %d, want %d", short(c.a), short(c.b), got, c.want)
		}
	}
}

func TestZero(t *testing.T) {
	for _, c := range []struct {
		s    string
		want bool
	}{
		{"", true},
		{"\x00", true},
		{zeros(3), true},
		{zeros(most + 1), true},
		{"a", false},
		{"0", false},
		{"\x01\x00\x00", false},
		{"\x00\x01\x00", false},
		{"\x00\x00\x01", false},
		{"\x80\x00", false},
		{"\xff", false},
		{zeros(most) + "\x01", false},
	} {
		if got := bytes.Zero(c.s); got != c.want {
			t.Errorf("Zero(%q): %t", short(c.s), got)
		}
	}
}

// shares tells whether two texts have a byte in common in memory. (Texts of one byte may, since all of them stand in one table of the language's own.)
func shares(a, b string) bool {
	if len(a) == 0 || len(b) == 0 {
		return false
	}
	p, q := uintptr(unsafe.Pointer(unsafe.StringData(a))), uintptr(unsafe.Pointer(unsafe.StringData(b)))
	return p < q+uintptr(len(b)) && q < p+uintptr(len(a))
}

func TestAnswersAreNewMemory(t *testing.T) {
	s := strings.Clone("abcdef")
	pad, _ := bytes.Pad(s, len(s))
	cut, _ := bytes.Cut(s, 3)
	whole, _ := bytes.Cut(s, len(s))
	put, _ := bytes.Put(s, 1, "")
	over, _ := bytes.Put("", 0, s)
	answers := append([]string{bytes.Xor(s, ""), bytes.Xor("", s), bytes.Sum([]string{s}), pad, put, over}, append(cut, whole...)...)
	for i, a := range answers {
		if shares(a, s) {
			t.Errorf("answer %d shares memory with what was handed in", i)
		}
		for j, b := range answers[:i] {
			if shares(a, b) {
				t.Errorf("answers %d and %d share memory", i, j)
			}
		}
	}
}

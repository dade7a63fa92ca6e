package bitmap_test

import (
	"fmt"
	"math"
	"slices"
	"strings"
	"testing"
	"unsafe"

	"hurdle/api"
	"hurdle/bitmap"
)

const most = api.MaxSectors

// sizes are ordinary ones, and those at which a byte, a word or a map ends.
var sizes = []int{0, 1, 2, 7, 8, 9, 15, 16, 17, 63, 64, 65, 100, 127, 128, 129, 1000, most - 65, most - 64, most - 63, most - 8, most - 7, most - 1, most}

// wild are numbers at which sums and products could wrap.
var wild = []int{math.MinInt, math.MinInt + 1, -1 << 32, -most - 1, -most, -65, -64, -8, -2, -1, most, most + 1, 1 << 32, 1 << 62, math.MaxInt - 1, math.MaxInt}

// lot gives numbers of many values, the same ones each time.
type lot uint64

func (l *lot) below(n int) int {
	*l = *l*6364136223846793005 + 1442695040888963407
	return int(uint64(*l)>>33) % n
}

// plain is a map as a row of bools, with the chapter's words done one bit at a time.
type plain []bool

func (p plain) count() int {
	n := 0
	for _, on := range p {
		if on {
			n++
		}
	}
	return n
}

func (p plain) all(at, n int, on bool) bool {
	for i := range n {
		if p[at+i] != on {
			return false
		}
	}
	return true
}

func (p plain) find(n int) int {
	if n < 1 || n > len(p) {
		return -1
	}
	free := 0
	for i, on := range p {
		free++
		if on {
			free = 0
		}
		if free == n {
			return i - n + 1
		}
	}
	return -1
}

func (p plain) runs(on bool) []api.Run {
	var l []api.Run
	for i, b := range p {
		if b != on {
			continue
		}
		if i > 0 && p[i-1] == on {
			l[len(l)-1].Len++
		} else {
			l = append(l, api.Run{At: i, Len: 1})
		}
	}
	return l
}

func (p plain) text() string {
	s := make([]byte, (len(p)+7)/8)
	for i, on := range p {
		if on {
			s[i/8] += 1 << (i % 8)
		}
	}
	return string(s)
}

func (p plain) take(n int) (int, api.Errno) {
	if n < 1 {
		return 0, api.ErrArg
	}
	at := p.find(n)
	if at < 0 {
		return 0, api.ErrFull
	}
	for i := range n {
		p[at+i] = true
	}
	return at, api.OK
}

func (p plain) free(r api.Run) api.Errno {
	if r.At < 0 || r.Len < 1 || r.At >= len(p) || r.Len > len(p)-r.At {
		return api.ErrArg
	}
	if !p.all(r.At, r.Len, true) {
		return api.ErrNone
	}
	for i := range r.Len {
		p[r.At+i] = false
	}
	return api.OK
}

// same holds all that a map tells against a row of bools.
func same(t *testing.T, what string, m *bitmap.Map, p plain) {
	t.Helper()
	if m == nil {
		t.Fatalf("%s: no map", what)
	}
	for i, on := range p {
		if m.Get(i) != on {
			t.Fatalf("%s: bit %d of %d: %v", what, i, len(p), !on)
		}
	}
	if m.Get(-1) || m.Get(len(p)) {
		t.Fatalf("%s: a bit beside the %d", what, len(p))
	}
	if m.Count() != p.count() {
		t.Fatalf("%s: Count %d, not %d", what, m.Count(), p.count())
	}
	for _, on := range []bool{false, true} {
		if got, want := m.Runs(on), p.runs(on); !slices.Equal(got, want) {
			t.Fatalf("%s: Runs(%v) %v, not %v", what, on, got, want)
		}
	}
	if got, want := m.Text(), p.text(); got != want {
		t.Fatalf("%s: Text %x, not %x", what, got, want)
	}
	for _, n := range []int{-1, 0, 1, 2, 3, len(p) - p.count(), len(p), len(p) + 1} {
		if got, want := m.Find(n), p.find(n); got != want {
			t.Fatalf("%s: Find(%d) %d, not %d", what, n, got, want)
		}
	}
}

// made is a map of n bits, about one in so many of them set, and the same row of bools.
func made(l *lot, n, in int) (*bitmap.Map, plain) {
	m, p := bitmap.New(n), make(plain, n)
	for i := range n {
		if l.below(in) == 0 {
			m.Set(i, true)
			p[i] = true
		}
	}
	return m, p
}

func TestNew(t *testing.T) {
	for _, n := range sizes {
		same(t, fmt.Sprint("New ", n), bitmap.New(n), make(plain, n))
	}
	for _, n := range wild {
		same(t, fmt.Sprint("New ", n), bitmap.New(n), make(plain, min(max(n, 0), most)))
	}
}

func TestNewMapsShareNothing(t *testing.T) {
	a, b := bitmap.New(8), bitmap.New(8)
	a.Set(1, true)
	same(t, "the other one", b, make(plain, 8))
}

func TestSetAndGet(t *testing.T) {
	for _, n := range sizes {
		m, p := bitmap.New(n), make(plain, n)
		for _, at := range []int{0, 7, 8, 63, 64, 65, n / 2, n - 1} {
			if at < 0 || at >= n {
				continue
			}
			for _, on := range []bool{false, true, true, false, false, true} {
				if !m.Set(at, on) || m.Get(at) != on {
					t.Fatalf("of %d bits Set(%d, %v)", n, at, on)
				}
				p[at] = on
				same(t, "Set", m, p)
			}
		}
	}
}

func TestSetOfNoBit(t *testing.T) {
	var l lot
	for _, n := range sizes {
		m, p := made(&l, n, 2)
		for _, at := range append([]int{n, n + 1, n + 63, n + 64}, wild...) {
			if at >= 0 && at < n {
				continue
			}
			if m.Get(at) || m.Set(at, true) || m.Set(at, false) || m.Get(at) {
				t.Fatalf("of %d bits there is one at %d", n, at)
			}
		}
		same(t, "Set of no bit", m, p)
	}
}

func TestCount(t *testing.T) {
	for _, n := range sizes {
		m := bitmap.New(n)
		for i := range n {
			m.Set(n-1-i, true)
			if m.Count() != i+1 {
				t.Fatalf("%d of %d bits are set: Count %d", i+1, n, m.Count())
			}
		}
	}
}

func TestFind(t *testing.T) {
	m := bitmap.New(8)
	m.Set(0, true)
	m.Set(3, true)
	for _, c := range []struct{ n, at int }{{-1, -1}, {0, -1}, {1, 1}, {2, 1}, {3, 4}, {4, 4}, {5, -1}, {8, -1}, {9, -1}} {
		if got := m.Find(c.n); got != c.at {
			t.Errorf("Find(%d): %d, not %d", c.n, got, c.at)
		}
	}
	if m.Text() != "\x09" {
		t.Errorf("Find changed the map: %x", m.Text())
	}
	for _, n := range wild {
		want := -1
		if n == most {
			want = 0
		}
		if got := bitmap.New(most).Find(n); got != want {
			t.Errorf("Find(%d) of %d bits: %d, not %d", n, most, got, want)
		}
	}
}

func TestFindAtTheEnd(t *testing.T) {
	for _, n := range sizes[2:] {
		m := bitmap.New(n)
		for i := range n - 2 {
			m.Set(i, true)
		}
		if m.Find(1) != n-2 || m.Find(2) != n-2 || m.Find(3) != -1 {
			t.Errorf("the last two of %d bits: %d, %d, %d", n, m.Find(1), m.Find(2), m.Find(3))
		}
	}
}

func TestRuns(t *testing.T) {
	m := bitmap.New(8)
	m.Set(0, true)
	m.Set(3, true)
	m.Set(4, true)
	if got := m.Runs(true); !slices.Equal(got, []api.Run{{At: 0, Len: 1}, {At: 3, Len: 2}}) {
		t.Errorf("those that are set: %v", got)
	}
	if got := m.Runs(false); !slices.Equal(got, []api.Run{{At: 1, Len: 2}, {At: 5, Len: 3}}) {
		t.Errorf("those that are not set: %v", got)
	}
	for _, on := range []bool{false, true} {
		if got := bitmap.New(0).Runs(on); len(got) != 0 {
			t.Errorf("rows of no bits: %v", got)
		}
	}
}

func TestRunsAreNew(t *testing.T) {
	m := bitmap.New(8)
	m.Set(2, true)
	first := m.Runs(false)
	second := m.Runs(false)
	first[0] = api.Run{At: 9, Len: 9}
	if second[0] != (api.Run{At: 0, Len: 2}) || m.Runs(false)[0] != second[0] || m.Find(1) != 0 {
		t.Error("answers share memory")
	}
}

func TestTake(t *testing.T) {
	m := bitmap.New(8)
	m.Set(0, true)
	m.Set(3, true)
	for _, c := range []struct {
		n, at int
		err   api.Errno
		text  string
	}{
		{math.MinInt, 0, api.ErrArg, "\x09"},
		{-1, 0, api.ErrArg, "\x09"},
		{0, 0, api.ErrArg, "\x09"},
		{5, 0, api.ErrFull, "\x09"},
		{8, 0, api.ErrFull, "\x09"},
		{9, 0, api.ErrFull, "\x09"},
		{math.MaxInt, 0, api.ErrFull, "\x09"},
		{3, 4, api.OK, "\x79"},
		{2, 1, api.OK, "\x7f"},
		{2, 0, api.ErrFull, "\x7f"},
		{1, 7, api.OK, "\xff"},
		{1, 0, api.ErrFull, "\xff"},
		{0, 0, api.ErrArg, "\xff"},
	} {
		if at, err := m.Take(c.n); at != c.at || err != c.err || m.Text() != c.text {
			t.Fatalf("Take(%d): %d, %d, %x", c.n, at, err, m.Text())
		}
	}
}

func TestTakeOfAllAndOfNone(t *testing.T) {
	for _, n := range sizes {
		m := bitmap.New(n)
		if at, err := m.Take(n + 1); at != 0 || err != api.ErrFull || m.Count() != 0 {
			t.Errorf("Take of one more than %d bits: %d, %d", n, at, err)
		}
		if n == 0 {
			continue
		}
		if at, err := m.Take(n); at != 0 || err != api.OK || m.Count() != n {
			t.Errorf("Take of all %d bits: %d, %d", n, at, err)
		}
	}
}

func TestFree(t *testing.T) {
	read := func(s string) *bitmap.Map {
		m, err := bitmap.Read(s, 12)
		if err != api.OK {
			t.Fatal(err)
		}
		return m
	}
	const whole = "\x7e\x0f" // 1 to 6, and 8 to 11
	for _, c := range []struct {
		at, n int
		err   api.Errno
		text  string
	}{
		{1, 6, api.OK, "\x00\x0f"},
		{1, 1, api.OK, "\x7c\x0f"},
		{3, 2, api.OK, "\x66\x0f"},
		{6, 1, api.OK, "\x3e\x0f"},
		{8, 4, api.OK, "\x7e\x00"},
		{11, 1, api.OK, "\x7e\x07"},
		{0, 1, api.ErrNone, whole},
		{0, 7, api.ErrNone, whole},
		{1, 7, api.ErrNone, whole},
		{6, 3, api.ErrNone, whole},
		{7, 1, api.ErrNone, whole},
		{7, 5, api.ErrNone, whole},
		{0, 12, api.ErrNone, whole},
		{-1, 1, api.ErrArg, whole},
		{-1, 3, api.ErrArg, whole},
		{1, 0, api.ErrArg, whole},
		{0, 0, api.ErrArg, whole},
		{1, -1, api.ErrArg, whole},
		{8, 5, api.ErrArg, whole},
		{7, 6, api.ErrArg, whole},
		{11, 2, api.ErrArg, whole},
		{12, 1, api.ErrArg, whole},
		{12, 0, api.ErrArg, whole},
		{13, 1, api.ErrArg, whole},
		{13, -1, api.ErrArg, whole},
		{64, 1, api.ErrArg, whole},
		{0, 13, api.ErrArg, whole},
	} {
		m := read(whole)
		if err := m.Free(api.Run{At: c.at, Len: c.n}); err != c.err || m.Text() != c.text {
			t.Errorf("Free of %d from %d on: %d, %x", c.n, c.at, err, m.Text())
		}
	}
}

func TestFreeOfWildRows(t *testing.T) {
	for _, size := range sizes {
		m := bitmap.New(size)
		m.Take(size)
		for _, at := range append([]int{0, 1, size - 1}, wild...) {
			for _, n := range append([]int{0, size + 1}, wild...) {
				if n == size && at == 0 {
					continue // that is all of the greatest map
				}
				if err := m.Free(api.Run{At: at, Len: n}); err != api.ErrArg {
					t.Fatalf("of %d bits Free of %d from %d on: %d", size, n, at, err)
				}
			}
		}
		if m.Count() != size {
			t.Fatalf("%d of %d bits are left", m.Count(), size)
		}
	}
}

func TestFreeOfAll(t *testing.T) {
	for _, n := range sizes[1:] {
		m := bitmap.New(n)
		m.Take(n)
		m.Set(n/2, false)
		if err := m.Free(api.Run{At: 0, Len: n}); err != api.ErrNone || m.Count() != n-1 {
			t.Errorf("Free of all of %d bits but one: %d, %d left", n, err, m.Count())
		}
		m.Set(n/2, true)
		if err := m.Free(api.Run{At: 0, Len: n}); err != api.OK || m.Count() != 0 {
			t.Errorf("Free of all of %d bits: %d, %d left", n, err, m.Count())
		}
	}
}

func TestText(t *testing.T) {
	for _, n := range sizes {
		m := bitmap.New(n)
		if m.Text() != strings.Repeat("\x00", (n+7)/8) {
			t.Errorf("no bit of %d: %x", n, m.Text())
		}
		for at := range n {
			m.Set(at, true)
			want := make([]byte, (n+7)/8)
			want[at/8] = 1 << (at % 8)
			if m.Text() != string(want) {
				t.Fatalf("bit %d of %d: %x", at, n, m.Text())
			}
			m.Set(at, false)
		}
	}
}

func TestTextIsNew(t *testing.T) {
	m := bitmap.New(most)
	a, b := m.Text(), m.Text()
	if unsafe.StringData(a) == unsafe.StringData(b) {
		t.Error("two answers share memory")
	}
	m.Set(0, true)
	if a[0] != 0 {
		t.Error("a text changed with its map")
	}
}

func TestRead(t *testing.T) {
	var l lot
	for _, n := range sizes {
		for _, in := range []int{1, 2, 9, 1000} {
			m, p := made(&l, n, in)
			back, err := bitmap.Read(m.Text(), n)
			if err != api.OK {
				t.Fatalf("Read of %d bits: %d", n, err)
			}
			same(t, "Read", back, p)
			if n > 0 { // what was read goes its own way
				back.Set(0, !p[0])
				same(t, "the map whose text was read", m, p)
			}
		}
	}
}

func TestReadOfWrongNumbers(t *testing.T) {
	for _, n := range wild {
		if n == most {
			continue
		}
		for _, s := range []string{"", "\x00", "\xff", strings.Repeat("\x00", most/8), strings.Repeat("\xff", most/8+1)} {
			if m, err := bitmap.Read(s, n); m != nil || err != api.ErrArg {
				t.Errorf("Read of %d bits: %d", n, err)
			}
		}
	}
}

func TestReadOfWrongSizes(t *testing.T) {
	for _, n := range sizes {
		right := (n + 7) / 8
		for _, size := range []int{0, 1, right - 1, right + 1, right + 8, most / 8, most/8 + 1, api.MaxBytes + 1} {
			if size < 0 || size == right {
				continue
			}
			for _, c := range []string{"\x00", "\xff"} {
				if m, err := bitmap.Read(strings.Repeat(c, size), n); m != nil || err != api.ErrSize {
					t.Errorf("Read of %d bits in %d bytes: %d", n, size, err)
				}
			}
		}
	}
}

func TestReadOfBitsBeyond(t *testing.T) {
	for _, n := range sizes {
		size := (n + 7) / 8
		for at := n; at < size*8; at++ {
			for _, c := range []byte{0, 0xff} {
				s := []byte(strings.Repeat(string([]byte{c}), size))
				if n%8 > 0 {
					s[size-1] %= 1 << (n % 8)
				}
				if m, err := bitmap.Read(string(s), n); m == nil || err != api.OK {
					t.Fatalf("Read of %d bits: %d", n, err)
				}
				s[size-1] |= 1 << (at % 8)
				if m, err := bitmap.Read(string(s), n); m != nil || err != api.ErrSyntax {
					t.Errorf("Read of %d bits with one at %d: %d", n, at, err)
				}
			}
		}
	}
}

// Whatever bytes: they are read and written just so, or refused.
func TestReadOfAnyBytes(t *testing.T) {
	var l lot
	for range 3000 {
		n := l.below(70)
		s := make([]byte, l.below(10))
		for i := range s {
			s[i] = byte(l.below(256))
		}
		if l.below(2) == 0 && len(s) > 0 {
			n = len(s)*8 - l.below(8)
		}
		want := api.OK
		beyond := false
		if len(s) != (n+7)/8 {
			want = api.ErrSize
		} else {
			for at := n; at < len(s)*8; at++ {
				beyond = beyond || s[at/8]>>(at%8)%2 == 1
			}
		}
		if beyond {
			want = api.ErrSyntax
		}
		m, err := bitmap.Read(string(s), n)
		if err != want || (m != nil) != (err == api.OK) || m != nil && m.Text() != string(s) {
			t.Fatalf("Read of %x as %d bits: %d, not %d", s, n, err, want)
		}
	}
}

// Many calls one behind the other tell what a row of bools tells.
func TestAgainstPlainBits(t *testing.T) {
	var l lot
	for _, n := range []int{0, 1, 5, 8, 63, 64, 65, 200, most} {
		m, p := made(&l, n, 3)
		for range 600 {
			at, k, on := l.below(n+3)-1, l.below(min(n, 20)+3)-1, l.below(2) == 0
			what := fmt.Sprintf("%d bits, at %d, %d, %v", n, at, k, on)
			switch l.below(3) {
			case 0:
				there := at >= 0 && at < n
				if there {
					p[at] = on
				}
				if m.Set(at, on) != there {
					t.Fatalf("Set: %s", what)
				}
			case 1:
				was, wasErr := p.take(k)
				if got, err := m.Take(k); got != was || err != wasErr {
					t.Fatalf("Take: %s: %d, %d, not %d, %d", what, got, err, was, wasErr)
				}
			default:
				r := api.Run{At: at, Len: k}
				was := p.free(r)
				if err := m.Free(r); err != was {
					t.Fatalf("Free: %s: %d, not %d", what, err, was)
				}
			}
			if n <= 200 {
				same(t, what, m, p)
			}
		}
		same(t, "the end", m, p)
	}
}

func TestNil(t *testing.T) {
	var m *bitmap.Map
	for _, n := range append([]int{0, 1, 2}, wild...) {
		if m.Set(n, true) || m.Set(n, false) || m.Get(n) {
			t.Errorf("nil has a bit at %d", n)
		}
		if m.Find(n) != -1 {
			t.Errorf("Find(%d) of nil: %d", n, m.Find(n))
		}
		if at, err := m.Take(n); at != 0 || err != api.ErrArg {
			t.Errorf("Take(%d) of nil: %d, %d", n, at, err)
		}
		for _, at := range []int{0, 1, n} {
			if err := m.Free(api.Run{At: at, Len: n}); err != api.ErrArg {
				t.Errorf("Free of %d from %d on of nil: %d", n, at, err)
			}
		}
	}
	if m.Count() != 0 || m.Text() != "" || len(m.Runs(true)) != 0 || len(m.Runs(false)) != 0 {
		t.Error("nil tells something")
	}
}

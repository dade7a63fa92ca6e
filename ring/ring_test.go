package ring_test

import (
	"math"
	"slices"
	"strconv"
	"strings"
	"testing"
	"unsafe"

	"hurdle/api"
	"hurdle/ring"
)

// lot gives numbers of many values, the same ones each time.
type lot uint64

func (l *lot) below(n int) int {
	*l = *l*6364136223846793005 + 1442695040888963407
	return int(uint64(*l)>>33) % n
}

// plain is a row with the chapter's words done one at a time.
type plain struct {
	most int
	row  []string
}

func (p *plain) put(s string) bool {
	if len(p.row) == p.most || len(s) > api.MaxBytes {
		return false
	}
	p.row = append(slices.Clone(p.row), s)
	return true
}

func (p *plain) drop(n int) int {
	went := 0
	for went < n && len(p.row) > 0 {
		p.row = slices.Clone(p.row[1:])
		went++
	}
	return went
}

// made is a row with room for n, into which the texts were put.
func made(t *testing.T, n int, texts ...string) *ring.Ring {
	t.Helper()
	r := ring.New(n)
	if r == nil {
		t.Fatal("nothing is there")
	}
	for _, s := range texts {
		wantPut(t, r, s, true)
	}
	return r
}

// numbers are the numbers from, from + 1, .. as texts, n of them.
func numbers(from, n int) []string {
	var l []string
	for i := range n {
		l = append(l, strconv.Itoa(from+i))
	}
	return l
}

func short(s string) string {
	if len(s) > 20 {
		return s[:20] + ".. of " + strconv.Itoa(len(s))
	}
	return s
}

func wantPut(t *testing.T, r *ring.Ring, s string, want bool) {
	t.Helper()
	if got := r.Put(s); got != want {
		t.Errorf("Put(%q): %v, not %v", short(s), got, want)
	}
}

func wantTake(t *testing.T, r *ring.Ring, want string, is bool) {
	t.Helper()
	if got, ok := r.Take(); got != want || ok != is {
		t.Errorf("Take: %q and %v, not %q and %v", short(got), ok, short(want), is)
	}
}

func wantPeek(t *testing.T, r *ring.Ring, i int, want string, is bool) {
	t.Helper()
	if got, ok := r.Peek(i); got != want || ok != is {
		t.Errorf("Peek(%d): %q and %v, not %q and %v", i, short(got), ok, short(want), is)
	}
}

func wantDrop(t *testing.T, r *ring.Ring, n, want int) {
	t.Helper()
	if got := r.Drop(n); got != want {
		t.Errorf("Drop(%d): %d, not %d", n, got, want)
	}
}

// wantRow holds All, Len, Room and Peek against a row with room for most.
func wantRow(t *testing.T, r *ring.Ring, most int, texts ...string) {
	t.Helper()
	if got := r.All(); !slices.Equal(got, texts) {
		t.Errorf("all are %d texts, not %d, or others", len(got), len(texts))
	}
	if got := r.Len(); got != len(texts) {
		t.Errorf("%d stand there, not %d", got, len(texts))
	}
	if got := r.Room(); got != most-len(texts) {
		t.Errorf("there is room for %d, not %d", got, most-len(texts))
	}
	for i, s := range texts {
		wantPeek(t, r, i, s, true)
	}
	for _, i := range []int{math.MinInt, -1, len(texts), len(texts) + 1, math.MaxInt} {
		wantPeek(t, r, i, "", false)
	}
}

func TestExample(t *testing.T) {
	r := ring.New(1)
	wantPut(t, r, "x", true)
	wantPut(t, r, "y", false)
	wantRow(t, r, 1, "x")
}

func TestNewRoom(t *testing.T) {
	for _, c := range []struct{ n, room int }{
		{math.MinInt, 1}, {-1 << 32, 1}, {-1, 1}, {0, 1}, {1, 1}, {2, 2}, {7, 7},
		{api.MaxOpen - 1, api.MaxOpen - 1}, {api.MaxOpen, api.MaxOpen},
		{api.MaxOpen + 1, api.MaxOpen}, {1 << 32, api.MaxOpen}, {math.MaxInt, api.MaxOpen},
	} {
		texts := numbers(0, c.room)
		r := made(t, c.n)
		wantRow(t, r, c.room)
		for _, s := range texts {
			wantPut(t, r, s, true)
		}
		wantPut(t, r, "more", false)
		wantPut(t, r, "", false)
		wantRow(t, r, c.room, texts...)
	}
}

func TestNewAreApart(t *testing.T) {
	a, b := made(t, 2, "a"), made(t, 2)
	wantRow(t, b, 2)
	wantPut(t, b, "b", true)
	wantTake(t, a, "a", true)
	wantRow(t, a, 2)
	wantRow(t, b, 2, "b")
}

func TestPutInOrder(t *testing.T) {
	r := made(t, 5, "b", "a", "", "b", "\x00\xff")
	wantRow(t, r, 5, "b", "a", "", "b", "\x00\xff")
}

func TestPutLength(t *testing.T) {
	most, more := strings.Repeat("m", api.MaxBytes), strings.Repeat("m", api.MaxBytes+1)
	r := made(t, 3, "a")
	wantPut(t, r, more, false)
	wantRow(t, r, 3, "a")
	wantPut(t, r, most, true)
	wantPut(t, r, more+more, false)
	wantRow(t, r, 3, "a", most)
	wantPut(t, r, "z", true)
	wantPut(t, r, more, false)
	wantRow(t, r, 3, "a", most, "z")
}

func TestPutFullOfTheLongest(t *testing.T) {
	most := strings.Repeat("m", api.MaxBytes)
	texts := slices.Repeat([]string{most}, api.MaxOpen)
	wantRow(t, made(t, api.MaxOpen, texts...), api.MaxOpen, texts...)
}

func TestPutAgainBehindTake(t *testing.T) {
	r := made(t, 2, "a", "b")
	wantPut(t, r, "c", false)
	wantTake(t, r, "a", true)
	wantPut(t, r, "c", true)
	wantPut(t, r, "d", false)
	wantRow(t, r, 2, "b", "c")
}

func TestTake(t *testing.T) {
	r := made(t, 4, "a", "", "c")
	wantTake(t, r, "a", true)
	wantRow(t, r, 4, "", "c")
	wantTake(t, r, "", true)
	wantRow(t, r, 4, "c")
	wantTake(t, r, "c", true)
	for range 3 {
		wantTake(t, r, "", false)
		wantRow(t, r, 4)
	}
	wantPut(t, r, "d", true)
	wantTake(t, r, "d", true)
}

func TestTakeOfNew(t *testing.T) {
	r := made(t, 4)
	wantTake(t, r, "", false)
	wantRow(t, r, 4)
}

func TestPeekTakesNothing(t *testing.T) {
	r := made(t, 3, "a", "b")
	for range 3 {
		wantPeek(t, r, 0, "a", true)
		wantPeek(t, r, 1, "b", true)
		wantPeek(t, r, 2, "", false)
	}
	wantTake(t, r, "a", true)
	wantPeek(t, r, 0, "b", true)
	wantPeek(t, r, 1, "", false)
	wantRow(t, r, 3, "b")
}

func TestDrop(t *testing.T) {
	texts := numbers(0, 6)
	for _, c := range []struct{ n, went int }{
		{math.MinInt, 0}, {-6, 0}, {-1, 0}, {0, 0}, {1, 1}, {2, 2}, {5, 5}, {6, 6}, {7, 6}, {8, 6}, {9, 6}, {math.MaxInt, 6},
	} {
		r := made(t, 8, texts...)
		wantDrop(t, r, c.n, c.went)
		wantRow(t, r, 8, texts[c.went:]...)
		wantPut(t, r, "new", true)
		wantRow(t, r, 8, append(slices.Clone(texts[c.went:]), "new")...)
	}
}

func TestDropOfNothing(t *testing.T) {
	r := made(t, 3)
	for _, n := range []int{math.MinInt, -1, 0, 1, 3, math.MaxInt} {
		wantDrop(t, r, n, 0)
	}
	wantPut(t, r, "a", true)
	wantDrop(t, r, 1, 1)
	wantDrop(t, r, 1, 0)
	wantRow(t, r, 3)
}

func TestAnswersAreNewMemory(t *testing.T) {
	r := made(t, 5, "a", "b", "c")
	x, y := r.All(), r.All()
	x[0] = "x"
	_ = append(x[:1], "y")
	if !slices.Equal(y, []string{"a", "b", "c"}) {
		t.Errorf("two answers share memory: %q", y)
	}
	wantRow(t, r, 5, "a", "b", "c")
	wantDrop(t, r, 2, 2)
	wantPut(t, r, "d", true)
	if !slices.Equal(y, []string{"a", "b", "c"}) {
		t.Errorf("an answer changed later: %q", y)
	}
	_ = append(r.All(), "e")
	wantRow(t, r, 5, "c", "d")
}

// Texts that are equal do not tell whether they share memory; where they stand does.
func TestTextsAreNewMemory(t *testing.T) {
	long := strings.Repeat("abc", 1000)
	r := made(t, 2, long[3:6])
	p, _ := r.Peek(0)
	q, _ := r.Peek(0)
	a := r.All()[0]
	s, _ := r.Take()
	at := map[*byte]int{unsafe.StringData(long[3:6]): 0}
	for _, x := range []string{p, q, a, s} {
		if x != "abc" {
			t.Errorf("%q", x)
		}
		at[unsafe.StringData(x)]++
	}
	if len(at) != 5 {
		t.Errorf("5 texts stand at %d places", len(at))
	}
}

func TestNil(t *testing.T) {
	var r *ring.Ring
	wantPut(t, r, "", false)
	wantPut(t, r, "a", false)
	wantTake(t, r, "", false)
	for _, n := range []int{math.MinInt, -1, 0, 1, math.MaxInt} {
		wantDrop(t, r, n, 0)
	}
	wantRow(t, r, 0)
}

func TestGoesOnForLong(t *testing.T) {
	r := made(t, 3, "0", "1")
	for i := range 10000 {
		wantPut(t, r, strconv.Itoa(i+2), true)
		wantPut(t, r, "more", false)
		wantTake(t, r, strconv.Itoa(i), true)
		if t.Failed() {
			t.Fatalf("at %d", i)
		}
	}
	wantRow(t, r, 3, "10000", "10001")
}

func TestAgainstPlain(t *testing.T) {
	var l lot = 8
	for round := range 200 {
		n := l.below(api.MaxOpen+6) - 2
		r, p := ring.New(n), &plain{most: min(max(n, 1), api.MaxOpen)}
		for step := range 200 {
			switch l.below(7) {
			case 0:
				k := l.below(8) - 2
				wantDrop(t, r, k, p.drop(k))
			case 1:
				first := append(slices.Clone(p.row), "")[0]
				wantTake(t, r, first, p.drop(1) == 1)
			default:
				s := strconv.Itoa(step)
				wantPut(t, r, s, p.put(s))
			}
			wantRow(t, r, p.most, p.row...)
		}
		if t.Failed() {
			t.Fatalf("in round %d", round)
		}
	}
}

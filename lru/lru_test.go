package lru_test

import (
	"math"
	"slices"
	"strings"
	"testing"
	"unsafe"

	"hurdle/api"
	"hurdle/lru"
)

// lot gives numbers of many values, the same ones each time.
type lot uint64

func (l *lot) below(n int) int {
	*l = *l*6364136223846793005 + 1442695040888963407
	return int(uint64(*l)>>33) % n
}

// kept is what a plain cache keeps of a key.
type kept struct {
	key    int
	value  string
	pinned bool
}

// plain is a cache as a row, that used the longest ago first, with the chapter's words done one at a time.
type plain struct {
	most int
	row  []kept
}

func (p *plain) at(key int) int {
	return slices.IndexFunc(p.row, func(k kept) bool { return k.key == key })
}

func (p *plain) bytes() int {
	n := 0
	for _, k := range p.row {
		n += len(k.value)
	}
	return n
}

func (p *plain) put(key int, value string) []int {
	p.drop(key)
	var gone []int
	for len(value) <= p.most && p.bytes()+len(value) > p.most {
		i := slices.IndexFunc(p.row, func(k kept) bool { return !k.pinned })
		if i < 0 {
			break
		}
		gone = append(gone, p.row[i].key)
		p.row = slices.Delete(p.row, i, i+1)
	}
	if p.bytes()+len(value) <= p.most {
		p.row = append(p.row, kept{key: key, value: value})
	}
	return gone
}

func (p *plain) get(key int) (string, bool) {
	i := p.at(key)
	if i < 0 {
		return "", false
	}
	k := p.row[i]
	p.row = append(slices.Delete(p.row, i, i+1), k)
	return k.value, true
}

func (p *plain) pin(key int, on bool) bool {
	i := p.at(key)
	if i >= 0 {
		p.row[i].pinned = on
	}
	return i >= 0
}

func (p *plain) drop(key int) bool {
	i := p.at(key)
	if i >= 0 {
		p.row = slices.Delete(p.row, i, i+1)
	}
	return i >= 0
}

func (p *plain) keys() []int {
	var l []int
	for _, k := range p.row {
		l = append(l, k.key)
	}
	return l
}

// filled is a cache that keeps a value of one byte for each of the keys, in order.
func filled(most int, keys ...int) *lru.Cache {
	c := lru.New(most)
	for _, key := range keys {
		c.Put(key, "x")
	}
	return c
}

func wantKeys(t *testing.T, c *lru.Cache, keys ...int) {
	t.Helper()
	if got := c.Keys(); !slices.Equal(got, keys) {
		t.Errorf("keys %v, not %v", got, keys)
	}
}

func wantBytes(t *testing.T, c *lru.Cache, n int) {
	t.Helper()
	if got := c.Bytes(); got != n {
		t.Errorf("%d bytes, not %d", got, n)
	}
}

func wantGone(t *testing.T, got []int, keys ...int) {
	t.Helper()
	if !slices.Equal(got, keys) {
		t.Errorf("%v went, not %v", got, keys)
	}
}

func wantValue(t *testing.T, c *lru.Cache, key int, value string) {
	t.Helper()
	if got, ok := c.Get(key); !ok || got != value {
		t.Errorf("key %d: %q and %v, not %q", key, got, ok, value)
	}
}

func wantNone(t *testing.T, c *lru.Cache, key int) {
	t.Helper()
	if got, ok := c.Get(key); ok || got != "" {
		t.Errorf("key %d: %q and %v, not nothing", key, got, ok)
	}
}

func TestExample(t *testing.T) {
	c := lru.New(2)
	wantGone(t, c.Put(1, "a"))
	wantGone(t, c.Put(2, "b"))
	wantValue(t, c, 1, "a")
	wantGone(t, c.Put(3, "c"), 2)
	wantNone(t, c, 2)
	wantKeys(t, c, 1, 3)
	wantBytes(t, c, 2)
}

func TestNewKeepsNothing(t *testing.T) {
	for _, most := range []int{math.MinInt, -1, 0, 1, 2, api.MaxBytes, api.MaxBytes + 1, math.MaxInt} {
		c := lru.New(most)
		if c == nil {
			t.Fatalf("most %d: nothing is there", most)
		}
		wantKeys(t, c)
		wantBytes(t, c, 0)
		wantNone(t, c, 0)
		if c.Pin(0, true) || c.Drop(0) {
			t.Errorf("most %d: 0 is kept", most)
		}
	}
}

func TestNewBounds(t *testing.T) {
	bounds := map[int]int{math.MinInt: 0, -1 << 32: 0, -1: 0, 0: 0, 1: 1, 2: 2, 1000: 1000, api.MaxBytes - 1: api.MaxBytes - 1,
		api.MaxBytes: api.MaxBytes, api.MaxBytes + 1: api.MaxBytes, 1 << 32: api.MaxBytes, math.MaxInt: api.MaxBytes}
	for most, bound := range bounds {
		c := lru.New(most)
		wantGone(t, c.Put(1, strings.Repeat("x", bound+1)))
		wantNone(t, c, 1)
		wantBytes(t, c, 0)
		whole := strings.Repeat("y", bound)
		wantGone(t, c.Put(2, whole))
		wantValue(t, c, 2, whole)
		wantBytes(t, c, bound)
		wantGone(t, c.Put(3, ""))
		wantKeys(t, c, 2, 3)
	}
}

func TestPutTakesThePlaceOfTheKey(t *testing.T) {
	c := lru.New(5)
	c.Put(1, "abc")
	c.Put(2, "de")
	wantGone(t, c.Put(1, "fgh"))
	wantValue(t, c, 1, "fgh")
	wantKeys(t, c, 2, 1)
	wantBytes(t, c, 5)
	wantGone(t, c.Put(1, ""))
	wantValue(t, c, 1, "")
	wantBytes(t, c, 2)
}

func TestPutOfTheOldestKeyGoesFirst(t *testing.T) {
	c := lru.New(4)
	c.Put(1, "ab")
	c.Put(2, "cd")
	wantGone(t, c.Put(1, "abc"), 2)
	wantKeys(t, c, 1)
	wantBytes(t, c, 3)
}

func TestPutLosesThePin(t *testing.T) {
	c := filled(2, 1, 2)
	c.Pin(1, true)
	c.Put(1, "y")
	c.Get(2)
	wantGone(t, c.Put(3, "z"), 1)
	wantKeys(t, c, 2, 3)
}

func TestPutIsNotPinned(t *testing.T) {
	c := lru.New(1)
	c.Pin(1, true)
	c.Put(1, "a")
	wantGone(t, c.Put(2, "b"), 1)
	wantGone(t, c.Put(3, "c"), 2)
}

func TestPutTellsInOrder(t *testing.T) {
	c := filled(5, 9, 3, 7, 1, 5)
	wantGone(t, c.Put(4, "xxx"), 9, 3, 7)
	wantKeys(t, c, 1, 5, 4)
	wantBytes(t, c, 5)
}

func TestPutPassesOverPins(t *testing.T) {
	c := filled(5, 1, 2, 3, 4, 5)
	for _, key := range []int{1, 3, 5} {
		c.Pin(key, true)
	}
	wantGone(t, c.Put(6, "x"), 2)
	wantGone(t, c.Put(7, "xx"), 4, 6)
	wantKeys(t, c, 1, 3, 5, 7)
	wantBytes(t, c, 5)
}

func TestPutTakesNoMoreThanItNeeds(t *testing.T) {
	c := filled(5, 1, 2, 3)
	wantGone(t, c.Put(4, "xx"))
	wantKeys(t, c, 1, 2, 3, 4)
	wantGone(t, c.Put(5, ""))
	wantKeys(t, c, 1, 2, 3, 4, 5)
	wantGone(t, c.Put(6, "x"), 1)
	wantBytes(t, c, 5)
}

func TestPutTakesEmptyOnesToo(t *testing.T) {
	c := lru.New(2)
	c.Put(1, "")
	c.Put(2, "a")
	c.Put(3, "")
	c.Put(4, "b")
	wantGone(t, c.Put(5, "c"), 1, 2)
	wantKeys(t, c, 3, 4, 5)
}

func TestPutFindsNoRoom(t *testing.T) {
	c := filled(5, 1, 2, 3, 4, 5)
	c.Pin(2, true)
	c.Pin(4, true)
	wantGone(t, c.Put(6, "xxxx"), 1, 3, 5)
	wantNone(t, c, 6)
	wantKeys(t, c, 2, 4)
	wantBytes(t, c, 2)
	wantGone(t, c.Put(7, "yyy"))
	wantKeys(t, c, 2, 4, 7)
}

func TestPutFindsAllPinned(t *testing.T) {
	c := filled(2, 1, 2)
	c.Pin(1, true)
	c.Pin(2, true)
	wantGone(t, c.Put(3, "x"))
	wantNone(t, c, 3)
	wantKeys(t, c, 1, 2)
	wantGone(t, c.Put(3, ""))
	wantKeys(t, c, 1, 2, 3)
	wantBytes(t, c, 2)
}

func TestPutOfTooMuchTakesItsKeyAlone(t *testing.T) {
	c := filled(3, 1, 2, 3)
	wantGone(t, c.Put(4, "xxxx"))
	wantKeys(t, c, 1, 2, 3)
	c.Pin(2, true)
	wantGone(t, c.Put(2, strings.Repeat("x", api.MaxBytes+1)))
	wantNone(t, c, 2)
	wantKeys(t, c, 1, 3)
	wantBytes(t, c, 2)
	// The pin went, too.
	c.Put(2, "x")
	wantGone(t, c.Put(4, "xxx"), 1, 3, 2)
}

func TestPutKeyThatFindsNoRoomGoes(t *testing.T) {
	c := filled(3, 1, 2)
	c.Pin(2, true)
	wantGone(t, c.Put(1, "xxx"))
	wantNone(t, c, 1)
	wantKeys(t, c, 2)
	wantBytes(t, c, 1)
}

func TestGetUses(t *testing.T) {
	c := filled(3, 1, 2, 3)
	// The oldest, the middle and the newest one.
	wantValue(t, c, 1, "x")
	wantKeys(t, c, 2, 3, 1)
	wantValue(t, c, 3, "x")
	wantKeys(t, c, 2, 1, 3)
	wantValue(t, c, 3, "x")
	wantKeys(t, c, 2, 1, 3)
	wantBytes(t, c, 3)
	wantGone(t, c.Put(4, "yyy"), 2, 1, 3)
}

func TestGetOfWhatIsNotThereUsesNothing(t *testing.T) {
	c := filled(3, 1, 2, 3)
	for _, key := range []int{math.MinInt, -1, 0, 4, math.MaxInt} {
		wantNone(t, c, key)
	}
	wantKeys(t, c, 1, 2, 3)
}

func TestGetKeepsThePin(t *testing.T) {
	c := filled(2, 1, 2)
	c.Pin(1, true)
	c.Get(1)
	c.Get(2)
	wantGone(t, c.Put(3, "x"), 2)
	wantKeys(t, c, 1, 3)
}

func TestGetOfBytesOfAnyKind(t *testing.T) {
	c := lru.New(api.MaxBytes)
	values := []string{"", "\x00", "a\x00b", "\xff\xfe", "é", strings.Repeat("\x00", 100)}
	for i, v := range values {
		c.Put(i, v)
	}
	for i, v := range values {
		wantValue(t, c, i, v)
	}
}

func TestPinTellsAndUsesNothing(t *testing.T) {
	c := filled(3, 1, 2)
	for _, on := range []bool{true, true, false, false} {
		if !c.Pin(1, on) {
			t.Errorf("pin %v: 1 is not kept", on)
		}
		if c.Pin(3, on) || c.Pin(math.MinInt, on) {
			t.Errorf("pin %v: 3 is kept", on)
		}
	}
	wantKeys(t, c, 1, 2)
	wantBytes(t, c, 2)
}

func TestPinOfWhatIsNotThereIsNotKept(t *testing.T) {
	c := filled(2, 1)
	c.Pin(2, true)
	wantKeys(t, c, 1)
	c.Put(2, "x")
	wantGone(t, c.Put(3, "yy"), 1, 2)
}

func TestPinOff(t *testing.T) {
	c := filled(2, 1, 2)
	c.Pin(1, true)
	c.Pin(1, true)
	c.Pin(1, false)
	// One off is enough, and the key goes by when it was used, not by when it was pinned.
	wantGone(t, c.Put(3, "x"), 1)
	wantKeys(t, c, 2, 3)
}

func TestDrop(t *testing.T) {
	for _, key := range []int{1, 2, 3} {
		c := filled(3, 1, 2, 3)
		if !c.Drop(key) {
			t.Errorf("%d was not kept", key)
		}
		if c.Drop(key) || c.Pin(key, true) {
			t.Errorf("%d is kept", key)
		}
		wantNone(t, c, key)
		rest := slices.DeleteFunc([]int{1, 2, 3}, func(k int) bool { return k == key })
		wantKeys(t, c, rest...)
		wantBytes(t, c, 2)
		wantGone(t, c.Put(4, "y"))
		wantGone(t, c.Put(5, "yy"), rest...)
	}
}

func TestDropOfWhatIsNotThere(t *testing.T) {
	c := filled(3, 1, 2)
	for _, key := range []int{math.MinInt, -1, 0, 3, math.MaxInt} {
		if c.Drop(key) {
			t.Errorf("%d was kept", key)
		}
	}
	wantKeys(t, c, 1, 2)
	wantBytes(t, c, 2)
}

func TestDropOfAPinnedOne(t *testing.T) {
	c := filled(2, 1, 2)
	c.Pin(1, true)
	if !c.Drop(1) {
		t.Error("1 was not kept")
	}
	wantKeys(t, c, 2)
	c.Put(1, "x")
	c.Get(2)
	wantGone(t, c.Put(3, "x"), 1)
}

func TestDropToNothing(t *testing.T) {
	c := filled(2, 1, 2)
	c.Drop(2)
	c.Drop(1)
	wantKeys(t, c)
	wantBytes(t, c, 0)
	c.Put(3, "ab")
	wantKeys(t, c, 3)
	wantValue(t, c, 3, "ab")
}

func TestKeysOfAnyKind(t *testing.T) {
	keys := []int{math.MinInt, math.MaxInt, 0, -1, 1, 1 << 32, -1 << 32}
	c := filled(api.MaxBytes, keys...)
	wantKeys(t, c, keys...)
	wantKeys(t, c, keys...)
	wantBytes(t, c, len(keys))
	for _, key := range keys {
		wantValue(t, c, key, "x")
	}
}

func TestManyKeys(t *testing.T) {
	c := lru.New(api.MaxBytes)
	for i := range 2 * api.MaxBytes {
		gone := c.Put(i, "x")
		if i < api.MaxBytes && len(gone) > 0 || i >= api.MaxBytes && !slices.Equal(gone, []int{i - api.MaxBytes}) {
			t.Fatalf("put %d: %v went", i, gone)
		}
	}
	wantBytes(t, c, api.MaxBytes)
	gone := c.Put(-1, strings.Repeat("y", api.MaxBytes))
	if len(gone) != api.MaxBytes || gone[0] != api.MaxBytes || gone[api.MaxBytes-1] != 2*api.MaxBytes-1 {
		t.Errorf("%d went", len(gone))
	}
	wantKeys(t, c, -1)
}

func TestNilCache(t *testing.T) {
	var c *lru.Cache
	wantGone(t, c.Put(1, "a"))
	wantGone(t, c.Put(1, ""))
	wantNone(t, c, 1)
	if c.Pin(1, true) || c.Pin(1, false) || c.Drop(1) {
		t.Error("1 is kept")
	}
	wantKeys(t, c)
	wantBytes(t, c, 0)
}

func TestCachesAreApart(t *testing.T) {
	a, b := lru.New(3), lru.New(3)
	a.Put(1, "a")
	b.Put(2, "b")
	wantKeys(t, a, 1)
	wantKeys(t, b, 2)
	wantNone(t, b, 1)
}

func TestAnswersAreNewMemory(t *testing.T) {
	c := filled(4, 1, 2, 3, 4)
	keys := c.Keys()
	for i := range keys {
		keys[i] = -1
	}
	_ = append(keys[:0], -2)
	wantKeys(t, c, 1, 2, 3, 4)
	gone := c.Put(5, "xx")
	gone[0], gone[1] = 3, 3
	wantKeys(t, c, 3, 4, 5)
	wantGone(t, c.Put(6, "xxx"), 3, 4, 5)
}

func TestTextsAreNewMemory(t *testing.T) {
	c := lru.New(100)
	value := strings.Repeat("ab", 20)
	c.Put(1, value)
	first, _ := c.Get(1)
	second, _ := c.Get(1)
	a, b, v := unsafe.StringData(first), unsafe.StringData(second), unsafe.StringData(value)
	if a == b || a == v || b == v {
		t.Error("texts share memory")
	}
}

func TestPutDoesNotKeepWhatIsHandedIn(t *testing.T) {
	c := lru.New(10)
	row := []byte("abc")
	c.Put(1, unsafe.String(&row[0], len(row)))
	row[1] = 'z'
	wantValue(t, c, 1, "abc")
}

// held fails unless c tells what p tells.
func held(t *testing.T, c *lru.Cache, p *plain) {
	t.Helper()
	if !slices.Equal(c.Keys(), p.keys()) || c.Bytes() != p.bytes() {
		t.Fatalf("keys %v and %d bytes, not %v and %d", c.Keys(), c.Bytes(), p.keys(), p.bytes())
	}
	if c.Bytes() < 0 || c.Bytes() > p.most {
		t.Fatalf("%d bytes, at most %d", c.Bytes(), p.most)
	}
}

// step does one thing of many to both, and fails unless both answer the same.
func step(t *testing.T, l *lot, c *lru.Cache, p *plain) {
	t.Helper()
	key := l.below(8) - 2
	switch what := l.below(12); {
	case what < 6:
		value := strings.Repeat(string(rune('a'+l.below(26))), l.below(p.most+3)*l.below(4)/3)
		if got, want := c.Put(key, value), p.put(key, value); !slices.Equal(got, want) {
			t.Fatalf("put %d %q: %v went, not %v", key, value, got, want)
		}
	case what < 8:
		got, ok := c.Get(key)
		want, there := p.get(key)
		if got != want || ok != there {
			t.Fatalf("get %d: %q and %v, not %q and %v", key, got, ok, want, there)
		}
	case what < 11:
		on := l.below(3) > 0
		if got, want := c.Pin(key, on), p.pin(key, on); got != want {
			t.Fatalf("pin %d %v: %v, not %v", key, on, got, want)
		}
	default:
		if got, want := c.Drop(key), p.drop(key); got != want {
			t.Fatalf("drop %d: %v, not %v", key, got, want)
		}
	}
	held(t, c, p)
}

func TestHeldAgainstPlain(t *testing.T) {
	var l lot
	for range 400 {
		most := l.below(12)
		c, p := lru.New(most), &plain{most: most}
		for range 200 {
			step(t, &l, c, p)
		}
		for key := range 8 {
			got, ok := c.Get(key - 2)
			want, there := p.get(key - 2)
			if got != want || ok != there {
				t.Fatalf("get %d: %q and %v, not %q and %v", key-2, got, ok, want, there)
			}
		}
	}
}

// TestAllRows does all rows of a few things to a small cache, so that no odd turn is left to luck.
func TestAllRows(t *testing.T) {
	things := []func(c *lru.Cache, p *plain) bool{
		func(c *lru.Cache, p *plain) bool { return slices.Equal(c.Put(1, "a"), p.put(1, "a")) },
		func(c *lru.Cache, p *plain) bool { return slices.Equal(c.Put(2, "b"), p.put(2, "b")) },
		func(c *lru.Cache, p *plain) bool { return slices.Equal(c.Put(3, "cd"), p.put(3, "cd")) },
		func(c *lru.Cache, p *plain) bool { return slices.Equal(c.Put(2, ""), p.put(2, "")) },
		func(c *lru.Cache, p *plain) bool { return slices.Equal(c.Put(1, "xyz"), p.put(1, "xyz")) },
		func(c *lru.Cache, p *plain) bool {
			a, ok := c.Get(1)
			b, there := p.get(1)
			return a == b && ok == there
		},
		func(c *lru.Cache, p *plain) bool { return c.Pin(1, true) == p.pin(1, true) },
		func(c *lru.Cache, p *plain) bool { return c.Pin(2, true) == p.pin(2, true) },
		func(c *lru.Cache, p *plain) bool { return c.Pin(1, false) == p.pin(1, false) },
		func(c *lru.Cache, p *plain) bool { return c.Drop(1) == p.drop(1) },
	}
	for row := range 1000000 {
		c, p := lru.New(2), &plain{most: 2}
		for rest := row; rest > 0; rest /= len(things) {
			if !things[rest%len(things)](c, p) {
				t.Fatalf("row %d: the answers are unlike", row)
			}
		}
		held(t, c, p)
	}
}

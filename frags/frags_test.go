package frags_test

import (
	"encoding/binary"
	"hash/crc32"
	"math"
	"slices"
	"strings"
	"testing"
	"unsafe"

	"hurdle/api"
	"hurdle/frags"
	"hurdle/sector"
)

const (
	wide     = 9 // sectors of a slot
	full     = 512
	greatest = 1<<31 - 1
	all      = -1
	putSteps = 4
	delSteps = 2
)

// lot gives numbers of many values, the same ones each time.
type lot uint64

func (l *lot) below(n int) int {
	*l = *l*6364136223846793005 + 1442695040888963407
	return int(uint64(*l)>>33) % n
}

func many(n int) string { return strings.Repeat("x", n) }

func at(stripe, index int) api.Place { return api.Place{Stripe: stripe, Index: index} }

func zeros(n int) string { return strings.Repeat("\x00", n) }

// sealed is a sector of any bytes with bytes 0 behind them, and a good sum.
func sealed(b []byte) string {
	b = append(b, make([]byte, 60-len(b))...)
	return string(binary.LittleEndian.AppendUint32(b, crc32.ChecksumIEEE(b)))
}

// numbers are a head's bytes ahead of the bytes 0.
func numbers(mark string, n ...uint32) []byte {
	b := []byte(mark)
	for _, x := range n {
		b = binary.LittleEndian.AppendUint32(b, x)
	}
	return b
}

func sum(s string) uint32 { return crc32.ChecksumIEEE([]byte(s)) }

func headOf(p api.Place, body string) string {
	return sealed(numbers("HFRG", uint32(p.Stripe), uint32(p.Index), uint32(len(body)), sum(body)))
}

// filled is a body's sectors: s, and bytes 0.
func filled(s string) string { return s + zeros(full-len(s)) }

// slotOf is a good slot.
func slotOf(p api.Place, body string) string { return headOf(p, body) + filled(body) }

// spoilt is s with another byte at i.
func spoilt(s string, i int) string {
	b := []byte(s)
	b[i] ^= 0x41
	return string(b)
}

// laid is a device with just these slots ("": all bytes 0), flushed.
func laid(t *testing.T, slots ...string) *sector.Device {
	t.Helper()
	d := sector.New(wide * len(slots))
	for i, s := range slots {
		if s == "" {
			continue
		}
		if err := d.Write(wide*i, s); err != api.OK {
			t.Fatalf("a slot of %d bytes is refused: %d", len(s), err)
		}
	}
	d.Flush()
	return d
}

// picture is all that a device holds.
func picture(t *testing.T, d *sector.Device) string {
	t.Helper()
	s, err := d.Read(0, d.Sectors())
	if err != api.OK {
		t.Fatalf("the device tells %d", err)
	}
	return s
}

func opened(t *testing.T, d *sector.Device) *frags.Frags {
	t.Helper()
	f, err := frags.Open(d)
	if f == nil || err != api.OK {
		t.Fatalf("Open: %v and %d", f, err)
	}
	return f
}

func wantPut(t *testing.T, what string, f *frags.Frags, p api.Place, body string, steps int, err api.Errno) {
	t.Helper()
	if e := f.Put(p, body, steps); e != err {
		t.Errorf("%s: Put(%v, %d bytes, %d): %d, want %d", what, p, len(body), steps, e, err)
	}
}

func wantGet(t *testing.T, what string, f *frags.Frags, p api.Place, body string, err api.Errno) {
	t.Helper()
	if s, e := f.Get(p); s != body || e != err {
		t.Errorf("%s: Get(%v): %q and %d, want %q and %d", what, p, s, e, body, err)
	}
}

func wantDelete(t *testing.T, what string, f *frags.Frags, p api.Place, steps int, err api.Errno) {
	t.Helper()
	if e := f.Delete(p, steps); e != err {
		t.Errorf("%s: Delete(%v, %d): %d, want %d", what, p, steps, e, err)
	}
}

func wantList(t *testing.T, what string, f *frags.Frags, free int, places ...api.Place) {
	t.Helper()
	if l := f.List(); !slices.Equal(l, places) {
		t.Errorf("%s: List: %v, want %v", what, l, places)
	}
	if n := f.Free(); n != free {
		t.Errorf("%s: Free: %d, want %d", what, n, free)
	}
}

func wantSame(t *testing.T, what string, d *sector.Device, whole string) {
	t.Helper()
	if picture(t, d) != whole {
		t.Errorf("%s: the device is another one", what)
	}
}

func TestSlots(t *testing.T) {
	for _, c := range []struct{ sectors, slots int }{
		{1, 0}, {8, 0}, {9, 1}, {17, 1}, {18, 2}, {20, 2}, {26, 2}, {27, 3},
		{2295, 255}, {2303, 255}, {2304, 256}, {2313, 256}, {api.MaxSectors, 256},
	} {
		d := sector.New(c.sectors)
		f := opened(t, d)
		wantList(t, "new", f, c.slots)
		wantGet(t, "new", f, at(0, 0), "", api.ErrNone)
		wantDelete(t, "new", f, at(0, 0), all, api.ErrNone)
		for i := range c.slots {
			wantPut(t, "in turn", f, at(i, i%8), "", all, api.OK)
			if f.Free() != c.slots-i-1 {
				t.Errorf("%d sectors: Free: %d behind %d Puts", c.sectors, f.Free(), i+1)
			}
		}
		wantPut(t, "full", f, at(c.slots, 0), "", all, api.ErrFull)
		if len(f.List()) != c.slots || len(opened(t, d).List()) != c.slots {
			t.Errorf("%d sectors: List: %d and, opened anew, %d", c.sectors, len(f.List()), len(opened(t, d).List()))
		}
	}
}

// The sectors behind the last slot belong to nobody.
func TestSlotsBehindTheLast(t *testing.T) {
	d := sector.New(api.MaxSectors)
	d.Write(256*wide, slotOf(at(1, 1), "beyond"))
	d.Write(255*wide, slotOf(at(1, 2), "the last"))
	f := opened(t, d)
	wantList(t, "of 4096 sectors", f, 255, at(1, 2))
	wantGet(t, "of 4096 sectors", f, at(1, 1), "", api.ErrNone)
	wantGet(t, "of 4096 sectors", f, at(1, 2), "the last", api.OK)
}

func TestPutByHand(t *testing.T) {
	d := sector.New(20)
	f := opened(t, d)
	wantPut(t, "one", f, at(0x01020304, 5), "abc", all, api.OK)
	wantPut(t, "two", f, at(0, 0), "", all, api.OK)
	whole := picture(t, d)
	head := "HFRG\x04\x03\x02\x01\x05\x00\x00\x00\x03\x00\x00\x00\xc2\x41\x24\x35" + zeros(40)
	if whole[:60] != head || binary.LittleEndian.Uint32([]byte(whole[60:64])) != sum(head) {
		t.Errorf("the head: %q", whole[:64])
	}
	if whole[64:576] != "abc"+zeros(509) {
		t.Errorf("the body: %q", whole[64:576])
	}
	if whole[576:596] != "HFRG"+zeros(16) || whole[640:] != zeros(20*64-640) {
		t.Errorf("behind it: %q", whole[576:])
	}
	if len(d.Loose()) != 0 {
		t.Errorf("loose: %d", d.Loose())
	}
}

func TestPutAndGet(t *testing.T) {
	d := sector.New(api.MaxSectors)
	f := opened(t, d)
	whole := ""
	var places []api.Place
	for _, c := range []struct {
		p    api.Place
		body string
	}{
		{at(0, 0), ""},
		{at(0, 7), "\x00"},
		{at(1, 0), "abc"},
		{at(1, 1), "abc"},
		{at(255, 3), many(63)},
		{at(256, 3), many(64)},
		{at(65536, 3), many(65) + "\x00\x00"},
		{at(1<<24, 3), many(255)},
		{at(greatest-1, 6), many(full - 1)},
		{at(greatest, 7), many(full)},
	} {
		wantGet(t, "ahead", f, c.p, "", api.ErrNone)
		wantPut(t, "fresh", f, c.p, c.body, all, api.OK)
		wantPut(t, "again", f, c.p, "other", all, api.ErrTwice)
		whole += slotOf(c.p, c.body)
		places = append(places, c.p)
		wantGet(t, "behind", f, c.p, c.body, api.OK)
		g := opened(t, d)
		wantGet(t, "opened anew", g, c.p, c.body, api.OK)
		wantList(t, "opened anew", g, 256-len(places), places...)
		wantList(t, "behind", f, 256-len(places), places...)
	}
	if !strings.HasPrefix(picture(t, d), whole+zeros(64)) {
		t.Error("slots are others than by hand")
	}
}

func TestPutRefuses(t *testing.T) {
	d := sector.New(2 * wide)
	f := opened(t, d)
	there := at(3, 1)
	wantPut(t, "one", f, there, "abc", all, api.OK)
	whole := picture(t, d)
	bad := []api.Place{
		at(-1, 0), at(0, -1), at(greatest+1, 0), at(0, 8), at(-1, -1), at(1<<32, 0), at(1<<32+3, 1), at(3, 1<<32+1),
		at(math.MinInt, 0), at(math.MaxInt, 0), at(0, math.MinInt), at(0, math.MaxInt), at(3, 9), at(3, -7),
	}
	for _, steps := range []int{all, 0, 1, putSteps, math.MinInt, math.MaxInt} {
		for _, p := range bad {
			wantPut(t, "a Place that may not be", f, p, "abc", steps, api.ErrArg)
			wantPut(t, "a Place that may not be, too long", f, p, many(full+1), steps, api.ErrArg)
			wantGet(t, "a Place that may not be", f, p, "", api.ErrNone)
			wantDelete(t, "a Place that may not be", f, p, steps, api.ErrNone)
		}
		wantPut(t, "too long", f, at(0, 0), many(full+1), steps, api.ErrSize)
		wantPut(t, "far too long", f, at(0, 0), many(1<<20), steps, api.ErrSize)
		wantPut(t, "there, too long", f, there, many(full+1), steps, api.ErrSize)
		wantPut(t, "there", f, there, "abc", steps, api.ErrTwice)
	}
	wantList(t, "behind what is refused", f, 1, there)
	wantGet(t, "behind what is refused", f, there, "abc", api.OK)
	wantSame(t, "behind what is refused", d, whole)
	wantPut(t, "two", f, at(3, 2), "abc", all, api.OK)
	whole = picture(t, d)
	for _, steps := range []int{all, 0, putSteps} {
		wantPut(t, "full", f, at(3, 3), "abc", steps, api.ErrFull)
		wantPut(t, "full, there", f, there, "abc", steps, api.ErrFull)
		wantPut(t, "full, too long", f, there, many(full+1), steps, api.ErrSize)
		wantPut(t, "full, may not be", f, at(3, 8), many(full+1), steps, api.ErrArg)
	}
	wantList(t, "full", f, 0, there, at(3, 2))
	wantSame(t, "full", d, whole)
}

func TestLowestSlot(t *testing.T) {
	d := sector.New(4 * wide)
	f := opened(t, d)
	for i := range 4 {
		wantPut(t, "in turn", f, at(i, 0), many(100+i), all, api.OK)
	}
	wantDelete(t, "the third", f, at(2, 0), all, api.OK)
	wantDelete(t, "the second", f, at(1, 0), all, api.OK)
	wantPut(t, "lowest", f, at(9, 0), "nine", all, api.OK)
	want := slotOf(at(0, 0), many(100)) + slotOf(at(9, 0), "nine") + zeros(64) + filled(many(102)) + slotOf(at(3, 0), many(103))
	wantSame(t, "lowest", d, want)
	wantList(t, "lowest", f, 1, at(0, 0), at(3, 0), at(9, 0))
	wantPut(t, "next", f, at(1, 0), "one", all, api.OK)
	wantPut(t, "full", f, at(8, 0), "one", all, api.ErrFull)
	wantGet(t, "next", f, at(1, 0), "one", api.OK)
}

// A slot that doesn't count is taken, whatever bytes it has.
func TestSpoiltSlotIsTaken(t *testing.T) {
	bad := spoilt(slotOf(at(1, 1), many(full)), 70)
	d := laid(t, slotOf(at(5, 5), "five"), bad, slotOf(at(6, 6), "six"))
	f := opened(t, d)
	wantList(t, "spoilt", f, 1, at(5, 5), at(6, 6))
	wantGet(t, "spoilt", f, at(1, 1), "", api.ErrNone)
	wantDelete(t, "spoilt", f, at(1, 1), all, api.ErrNone)
	wantPut(t, "spoilt", f, at(1, 1), "one", all, api.OK)
	wantSame(t, "spoilt", d, slotOf(at(5, 5), "five")+slotOf(at(1, 1), "one")+slotOf(at(6, 6), "six"))
	wantGet(t, "taken", f, at(1, 1), "one", api.OK)
}

func TestWhatCounts(t *testing.T) {
	p := at(3, 1)
	head := func(mark string, n ...uint32) string { return sealed(numbers(mark, n...)) }
	for _, c := range []struct {
		what       string
		head, body string
		p          api.Place
		got        string
		counts     bool
	}{
		{"a good one", headOf(p, "abc"), "abc", p, "abc", true},
		{"by numbers", head("HFRG", 3, 1, 3, sum("abc")), "abc", p, "abc", true},
		{"without bytes", headOf(p, ""), "", p, "", true},
		{"a full one", headOf(p, many(full)), many(full), p, many(full), true},
		{"the least Place", headOf(at(0, 0), "a"), "a", at(0, 0), "a", true},
		{"the greatest Place", headOf(at(greatest, 7), "a"), "a", at(greatest, 7), "a", true},
		{"other bytes behind the body", headOf(p, "abc"), "abcdef", p, "abc", true},
		{"other bytes behind no body", headOf(p, ""), many(full), p, "", true},
		{"bytes 0 as a body", headOf(p, zeros(9)), "", p, zeros(9), true},
		{"nothing", zeros(64), "", at(0, 0), "", false},
		{"a sum alone", sealed(nil), "", at(0, 0), "", false},
		{"a stripe beyond", head("HFRG", 1<<31, 1, 3, sum("abc")), "abc", p, "", false},
		{"a stripe far beyond", head("HFRG", 1<<32-1, 1, 3, sum("abc")), "abc", p, "", false},
		{"an index beyond", head("HFRG", 3, 8, 3, sum("abc")), "abc", p, "", false},
		{"an index far beyond", head("HFRG", 3, 1<<32-1, 3, sum("abc")), "abc", p, "", false},
		{"an index of 2^31", head("HFRG", 3, 1<<31, 3, sum("abc")), "abc", p, "", false},
		{"a length beyond", head("HFRG", 3, 1, full+1, sum(many(full)+"\x00")), many(full), p, "", false},
		{"a length far beyond", head("HFRG", 3, 1, 1<<32-1, sum("abc")), "abc", p, "", false},
		{"a length of 2^31", head("HFRG", 3, 1, 1<<31, sum("abc")), "abc", p, "", false},
		{"a length of 256 and 3", head("HFRG", 3, 1, 259, sum("abc")), "abc", p, "", false},
		{"a shorter length", head("HFRG", 3, 1, 2, sum("abc")), "abc", p, "", false},
		{"the body's sum with its bytes 0", head("HFRG", 3, 1, 3, sum(filled("abc"))), "abc", p, "", false},
		{"another sum", head("HFRG", 3, 1, 3, sum("abc")+1), "abc", p, "", false},
		{"another body", headOf(p, "abc"), "abd", p, "", false},
		{"no body", headOf(p, "abc"), "", p, "", false},
		{"another mark", head("HFRH", 3, 1, 3, sum("abc")), "abc", p, "", false},
		{"a small mark", head("hfrg", 3, 1, 3, sum("abc")), "abc", p, "", false},
		{"no mark", head("\x00\x00\x00\x00", 3, 1, 3, sum("abc")), "abc", p, "", false},
		{"a byte behind the numbers", head("HFRG", 3, 1, 3, sum("abc"), 1), "abc", p, "", false},
		{"a byte at the end", sealed(append(append(numbers("HFRG", 3, 1, 3, sum("abc")), zeros(39)...), 1)), "abc", p, "", false},
		{"no sum of the head", headOf(p, "abc")[:60] + zeros(4), "abc", p, "", false},
		{"the highest first", sealed([]byte("HFRG\x00\x00\x00\x03\x00\x00\x00\x01\x00\x00\x00\x03\x35\x24\x41\xc2")), "abc", p, "", false},
	} {
		d := laid(t, c.head+filled(c.body), "")
		whole := picture(t, d)
		f := opened(t, d)
		if c.counts {
			wantList(t, c.what, f, 1, c.p)
			wantGet(t, c.what, f, c.p, c.got, api.OK)
			wantPut(t, c.what, f, c.p, "new", all, api.ErrTwice)
		} else {
			wantList(t, c.what, f, 2)
			wantGet(t, c.what, f, c.p, "", api.ErrNone)
		}
		if len(d.Loose()) != 0 {
			t.Errorf("%s: Open writes", c.what)
		}
		wantSame(t, c.what, d, whole)
	}
}

// Each bit of the head and of the body matters, none behind it does.
func TestSpoiltBits(t *testing.T) {
	p := at(3, 1)
	good := slotOf(p, "abcdefg")
	for bit := range len(good) * 8 {
		b := []byte(good)
		b[bit/8] ^= 1 << (bit % 8)
		f := opened(t, laid(t, string(b)))
		if bit/8 < 64+7 {
			wantList(t, "spoilt", f, 1)
		} else {
			wantGet(t, "spoilt behind the body", f, p, "abcdefg", api.OK)
		}
	}
}

func TestSamePlaceTwice(t *testing.T) {
	p, q := at(3, 1), at(3, 2)
	low, high := slotOf(p, "low"), slotOf(p, "high")
	for _, c := range []struct {
		what  string
		slots []string
		free  int
		body  string
		list  []api.Place
	}{
		{"twice", []string{low, high}, 1, "low", []api.Place{p}},
		{"twice just the same", []string{low, low}, 1, "low", []api.Place{p}},
		{"three times", []string{high, low, high}, 2, "high", []api.Place{p}},
		{"with one between", []string{low, slotOf(q, "q"), high}, 1, "low", []api.Place{p, q}},
		{"with one that is free between", []string{"", low, "", high}, 3, "low", []api.Place{p}},
		{"the lower one's body is spoilt", []string{spoilt(low, 64), high}, 1, "high", []api.Place{p}},
		{"the lower one's head is spoilt", []string{spoilt(low, 63), high, low}, 2, "high", []api.Place{p}},
		{"both spoilt, a third is good", []string{spoilt(low, 0), spoilt(low, 20), high}, 2, "high", []api.Place{p}},
		{"two Places, each twice", []string{low, slotOf(q, "q"), slotOf(q, "r"), high}, 2, "low", []api.Place{p, q}},
		{"another index, another stripe", []string{low, slotOf(q, ""), slotOf(at(2, 1), "")}, 0, "low", []api.Place{at(2, 1), p, q}},
	} {
		f := opened(t, laid(t, c.slots...))
		wantList(t, c.what, f, c.free, c.list...)
		wantGet(t, c.what, f, p, c.body, api.OK)
	}
}

// The higher one of two is a slot that is free to take; whoever opens anew finds it, if it wasn't taken.
func TestSamePlaceTwiceLater(t *testing.T) {
	p := at(3, 1)
	d := laid(t, slotOf(p, "low"), slotOf(p, "high"))
	f := opened(t, d)
	wantPut(t, "twice", f, p, "new", all, api.ErrTwice)
	wantDelete(t, "twice", f, p, all, api.OK)
	wantList(t, "behind Delete", f, 2)
	wantSame(t, "behind Delete", d, zeros(64)+filled("low")+slotOf(p, "high"))
	wantGet(t, "opened anew", opened(t, d), p, "high", api.OK)
	wantPut(t, "behind Delete", f, at(4, 0), "four", all, api.OK)
	wantPut(t, "behind Delete", f, at(5, 0), "five", all, api.OK)
	wantSame(t, "both taken", d, slotOf(at(4, 0), "four")+slotOf(at(5, 0), "five"))
}

func TestListIsSorted(t *testing.T) {
	d := sector.New(10 * wide)
	f := opened(t, d)
	for _, p := range []api.Place{at(10, 0), at(2, 7), at(2, 0), at(0, 5), at(greatest, 0), at(256, 1), at(2, 3), at(1, 7), at(0, 6)} {
		wantPut(t, "in any order", f, p, "", all, api.OK)
	}
	sorted := []api.Place{at(0, 5), at(0, 6), at(1, 7), at(2, 0), at(2, 3), at(2, 7), at(10, 0), at(256, 1), at(greatest, 0)}
	wantList(t, "in any order", f, 1, sorted...)
	wantList(t, "opened anew", opened(t, d), 1, sorted...)
}

func TestDelete(t *testing.T) {
	d := sector.New(2 * wide)
	f := opened(t, d)
	p, q := at(3, 1), at(4, 0)
	wantPut(t, "one", f, p, "abc", all, api.OK)
	wantPut(t, "two", f, q, "def", all, api.OK)
	wantDelete(t, "another one", f, at(3, 0), all, api.ErrNone)
	wantDelete(t, "one", f, p, all, api.OK)
	if len(d.Loose()) != 0 {
		t.Errorf("loose: %d", d.Loose())
	}
	wantSame(t, "deleted", d, zeros(64)+filled("abc")+slotOf(q, "def"))
	wantGet(t, "deleted", f, p, "", api.ErrNone)
	wantDelete(t, "again", f, p, all, api.ErrNone)
	wantList(t, "deleted", f, 1, q)
	wantList(t, "opened anew", opened(t, d), 1, q)
	wantPut(t, "put again", f, p, "", all, api.OK)
	wantSame(t, "put again", d, slotOf(p, "")+slotOf(q, "def"))
	wantGet(t, "put again", f, p, "", api.OK)
}

func TestOpenRefuses(t *testing.T) {
	if f, err := frags.Open(nil); f != nil || err != api.ErrArg {
		t.Errorf("nil: %v and %d", f, err)
	}
	for _, n := range []int{9, 20, api.MaxSectors} {
		d := sector.New(n)
		wantPut(t, "ahead of the loss", opened(t, d), at(0, 0), "a", all, api.OK)
		d.Lose()
		if f, err := frags.Open(d); f != nil || err != api.ErrDown {
			t.Errorf("lost, of %d sectors: %v and %d", n, f, err)
		}
	}
}

// Of a device without slots nothing is read, so it has no error to tell.
func TestLostWithoutSlots(t *testing.T) {
	d := sector.New(8)
	d.Lose()
	f := opened(t, d)
	wantList(t, "without slots", f, 0)
	wantPut(t, "without slots", f, at(0, 0), "a", all, api.ErrFull)
}

func TestNil(t *testing.T) {
	var f *frags.Frags
	for _, steps := range []int{all, 0, 1, 9, math.MinInt, math.MaxInt} {
		wantPut(t, "nil", f, at(0, 0), "a", steps, api.ErrArg)
		wantPut(t, "nil", f, at(-1, 0), many(full+1), steps, api.ErrArg)
		wantPut(t, "nil", f, at(1, 0), many(full+1), steps, api.ErrArg)
		wantDelete(t, "nil", f, at(0, 0), steps, api.ErrArg)
		wantDelete(t, "nil", f, at(-1, 9), steps, api.ErrArg)
	}
	wantGet(t, "nil", f, at(0, 0), "", api.ErrArg)
	wantGet(t, "nil", f, at(-1, 9), "", api.ErrArg)
	wantList(t, "nil", f, 0)
}

// wantCut: a store that is cut, in which there is one fragment, and one slot is free (but of a full one).
func wantCut(t *testing.T, what string, f *frags.Frags, free int, there ...api.Place) {
	t.Helper()
	wantList(t, what, f, free, there...)
	none := at(77, 7)
	state, twice := api.ErrState, api.ErrTwice
	if free == 0 {
		state, twice = api.ErrFull, api.ErrFull
	}
	for _, steps := range []int{all, 0, 1, 9} {
		wantPut(t, what, f, none, "a", steps, state)
		wantPut(t, what, f, none, many(full+1), steps, api.ErrSize)
		wantPut(t, what, f, at(0, 8), many(full+1), steps, api.ErrArg)
		wantDelete(t, what, f, none, steps, api.ErrNone)
		for _, p := range there {
			wantPut(t, what, f, p, "a", steps, twice)
			wantDelete(t, what, f, p, steps, api.ErrState)
		}
	}
	wantGet(t, what, f, none, "", api.ErrNone)
	for _, p := range there {
		wantGet(t, what, f, p, "", api.ErrState)
	}
	wantList(t, what, f, free, there...)
}

func TestPutIsCut(t *testing.T) {
	p, q := at(3, 1), at(4, 0)
	old, body, head := slotOf(p, "abc"), filled(many(300)), headOf(q, many(300))
	for _, c := range []struct {
		steps int
		err   api.Errno
		whole string
		loose []int
	}{
		{0, api.ErrState, old + zeros(64+full), nil},
		{1, api.ErrState, old + zeros(64) + body, []int{10, 11, 12, 13, 14, 15, 16, 17}},
		{2, api.ErrState, old + zeros(64) + body, nil},
		{3, api.ErrState, old + head + body, []int{9}},
		{4, api.OK, old + head + body, nil},
		{5, api.OK, old + head + body, nil},
		{math.MaxInt, api.OK, old + head + body, nil},
		{-1, api.OK, old + head + body, nil},
		{-4, api.OK, old + head + body, nil},
		{math.MinInt, api.OK, old + head + body, nil},
	} {
		d := laid(t, old, "")
		f := opened(t, d)
		wantPut(t, "cut", f, q, many(300), c.steps, c.err)
		wantSame(t, "cut", d, c.whole)
		if !slices.Equal(d.Loose(), c.loose) {
			t.Errorf("behind %d steps are loose: %d, want %d", c.steps, d.Loose(), c.loose)
		}
		if c.err == api.OK {
			wantList(t, "not cut", f, 0, p, q)
			wantGet(t, "not cut", f, q, many(300), api.OK)
			wantGet(t, "not cut", f, p, "abc", api.OK)
			continue
		}
		wantCut(t, "cut", f, 1, p)
		wantGet(t, "cut", f, q, "", api.ErrNone)
		wantSame(t, "behind what is refused", d, c.whole)
		if !slices.Equal(d.Loose(), c.loose) {
			t.Errorf("behind what is refused are loose: %d, want %d", d.Loose(), c.loose)
		}
	}
}

func TestDeleteIsCut(t *testing.T) {
	p, q := at(3, 1), at(4, 0)
	old, gone := slotOf(p, "abc"), zeros(64)+filled("abc")
	for _, c := range []struct {
		steps int
		err   api.Errno
		first string
		loose []int
	}{
		{0, api.ErrState, old, nil},
		{1, api.ErrState, gone, []int{0}},
		{2, api.OK, gone, nil},
		{3, api.OK, gone, nil},
		{math.MaxInt, api.OK, gone, nil},
		{-1, api.OK, gone, nil},
		{-2, api.OK, gone, nil},
		{math.MinInt, api.OK, gone, nil},
	} {
		for _, second := range []string{"", slotOf(q, "def")} {
			free, rest := 1, []api.Place(nil)
			if second != "" {
				free, rest = 0, []api.Place{q}
			}
			d := laid(t, old, second)
			f := opened(t, d)
			wantDelete(t, "cut", f, p, c.steps, c.err)
			whole := picture(t, d)
			if !strings.HasPrefix(whole, c.first) {
				t.Errorf("behind %d steps: %q", c.steps, whole[:128])
			}
			if !slices.Equal(d.Loose(), c.loose) {
				t.Errorf("behind %d steps are loose: %d, want %d", c.steps, d.Loose(), c.loose)
			}
			if c.err == api.OK {
				wantList(t, "not cut", f, free+1, rest...)
				wantPut(t, "not cut", f, p, "new", all, api.OK)
				continue
			}
			wantCut(t, "cut", f, free, append([]api.Place{p}, rest...)...)
			wantSame(t, "behind what is refused", d, whole)
		}
	}
}

func TestDeviceIsLost(t *testing.T) {
	p, q := at(3, 1), at(4, 0)
	for _, steps := range []int{all, 1, 2, 3, 4, 9} {
		d := laid(t, slotOf(p, "abc"), slotOf(q, ""), "")
		f, g := opened(t, d), opened(t, d)
		d.Lose()
		for range 2 { // a Get doesn't cut
			wantGet(t, "lost", f, p, "", api.ErrDown)
			wantGet(t, "lost, without bytes", f, q, "", api.ErrDown)
			wantGet(t, "lost, not there", f, at(0, 0), "", api.ErrNone)
		}
		wantPut(t, "lost, may not be", f, at(0, 8), "a", steps, api.ErrArg)
		wantPut(t, "lost, too long", f, at(0, 0), many(full+1), steps, api.ErrSize)
		wantPut(t, "lost, there", f, p, "a", steps, api.ErrTwice)
		wantDelete(t, "lost, not there", f, at(0, 0), steps, api.ErrNone)
		wantGet(t, "lost", f, p, "", api.ErrDown)
		wantPut(t, "lost", f, at(0, 0), "a", steps, api.ErrDown)
		wantCut(t, "lost", f, 1, p, q)
		wantDelete(t, "lost", g, p, steps, api.ErrDown)
		wantCut(t, "lost", g, 1, p, q)
	}
	d := laid(t, slotOf(p, "abc"), "")
	f, g := opened(t, d), opened(t, d)
	d.Lose()
	wantPut(t, "lost, no step", f, q, "a", 0, api.ErrState)
	wantDelete(t, "lost, no step", g, p, 0, api.ErrState)
	wantCut(t, "lost, no step", f, 1, p)
	wantCut(t, "lost, no step", g, 1, p)
}

// keeps are all ways to keep of so many loose sectors.
func keeps(loose []int) uint64 { return 1 << len(loose) }

func TestPutIsCutAndCrashes(t *testing.T) {
	p, q, r := at(3, 1), at(4, 0), at(0, 7)
	body := many(130) + zeros(100) + many(282)
	for steps := all; steps <= putSteps; steps++ {
		for keep := uint64(0); ; keep++ {
			d := laid(t, slotOf(p, "abc"), spoilt(slotOf(q, "old"), 65), slotOf(r, many(full)))
			f := opened(t, d)
			err := f.Put(q, body, steps)
			last := keeps(d.Loose()) - 1
			d.Crash(keep, 0)
			g := opened(t, d)
			wantGet(t, "was there", g, p, "abc", api.OK)
			wantGet(t, "was there", g, r, many(full), api.OK)
			if steps == 3 && keep == 1 || err == api.OK {
				wantList(t, "as it should be", g, 0, r, p, q)
				wantGet(t, "as it should be", g, q, body, api.OK)
			} else {
				wantList(t, "as it was", g, 1, r, p)
				wantPut(t, "as it was", g, q, "again", all, api.OK)
				wantGet(t, "as it was", g, q, "again", api.OK)
			}
			if keep == last || t.Failed() {
				break
			}
		}
	}
}

func TestDeleteIsCutAndCrashes(t *testing.T) {
	p, q, r := at(3, 1), at(4, 0), at(0, 7)
	for steps := all; steps <= delSteps; steps++ {
		for keep := uint64(0); ; keep++ {
			d := laid(t, slotOf(p, "abc"), slotOf(q, "q"), slotOf(r, many(full)))
			f := opened(t, d)
			err := f.Delete(q, steps)
			last := keeps(d.Loose()) - 1
			d.Crash(keep, 0)
			g := opened(t, d)
			wantGet(t, "was there", g, p, "abc", api.OK)
			wantGet(t, "was there", g, r, many(full), api.OK)
			if steps == 1 && keep == 1 || err == api.OK {
				wantList(t, "as it should be", g, 1, r, p)
			} else {
				wantList(t, "as it was", g, 0, r, p, q)
				wantGet(t, "as it was", g, q, "q", api.OK)
			}
			if keep == last || t.Failed() {
				break
			}
		}
	}
}

// A store that was cut isn't, if it is opened anew, even without a crash: what was written last counts.
func TestOpenedAnewBehindCut(t *testing.T) {
	p := at(3, 1)
	d := sector.New(wide)
	f := opened(t, d)
	wantPut(t, "cut", f, p, "abc", 3, api.ErrState)
	g := opened(t, d)
	wantGet(t, "opened anew", g, p, "abc", api.OK)
	wantCut(t, "cut", f, 1)
	wantDelete(t, "opened anew", g, p, 1, api.ErrState)
	wantCut(t, "cut again", g, 0, p)
	wantList(t, "opened anew", opened(t, d), 1)
}

// What another store does on the device isn't seen in the list.
func TestTwoStores(t *testing.T) {
	d := sector.New(2 * wide)
	f, g := opened(t, d), opened(t, d)
	p := at(3, 1)
	wantPut(t, "one", f, p, "abc", all, api.OK)
	wantList(t, "one", f, 1, p)
	wantList(t, "the other", g, 2)
	wantGet(t, "the other", g, p, "", api.ErrNone)
	h := opened(t, d)
	wantDelete(t, "the third", h, p, all, api.OK)
	wantList(t, "one", f, 1, p)
	wantList(t, "the third", h, 2)
	wantDelete(t, "cut", f, p, 0, api.ErrState)
	wantPut(t, "the other isn't cut", g, p, "def", all, api.OK)
}

func shares(a, b string) bool {
	return a != "" && b != "" && unsafe.StringData(a) == unsafe.StringData(b)
}

func TestAnswersAreNewMemory(t *testing.T) {
	d := sector.New(3 * wide)
	f := opened(t, d)
	body := strings.Clone(many(full))
	wantPut(t, "one", f, at(2, 0), body, all, api.OK)
	wantPut(t, "two", f, at(1, 0), "", all, api.OK)
	first, _ := f.Get(at(2, 0))
	second, _ := f.Get(at(2, 0))
	if shares(first, second) || shares(first, body) {
		t.Error("bodies share memory")
	}
	l := f.List()
	l[0], l[1] = at(9, 9), at(9, 9)
	_ = append(l[:1], at(8, 8))
	wantList(t, "behind a list that was changed", f, 1, at(1, 0), at(2, 0))
}

// plain is what a store is known to hold.
type plain struct {
	slots  int
	bodies map[api.Place]string
	cut    bool
	cutOff string // the body of the Put that was cut
}

func (p *plain) put(at api.Place, body string, steps int) api.Errno {
	_, there := p.bodies[at]
	switch {
	case at.Stripe < 0 || at.Index < 0 || at.Index > 7:
		return api.ErrArg
	case len(body) > full:
		return api.ErrSize
	case len(p.bodies) == p.slots:
		return api.ErrFull
	case there:
		return api.ErrTwice
	case p.cut:
		return api.ErrState
	case steps >= 0 && steps < putSteps:
		p.cut, p.cutOff = true, body
		return api.ErrState
	}
	p.bodies[at] = body
	return api.OK
}

func (p *plain) get(at api.Place) (string, api.Errno) {
	body, there := p.bodies[at]
	switch {
	case !there:
		return "", api.ErrNone
	case p.cut:
		return "", api.ErrState
	}
	return body, api.OK
}

func (p *plain) remove(at api.Place, steps int) api.Errno {
	_, there := p.bodies[at]
	switch {
	case !there:
		return api.ErrNone
	case p.cut || steps >= 0 && steps < delSteps:
		p.cut = true
		return api.ErrState
	}
	delete(p.bodies, at)
	return api.OK
}

func (p *plain) list() []api.Place {
	var l []api.Place
	for at := range p.bodies {
		l = append(l, at)
	}
	slices.SortFunc(l, func(a, b api.Place) int { return a.Stripe*100 + a.Index - b.Stripe*100 - b.Index })
	return l
}

// crash lets the store be opened anew; of what was cut it may be either.
func crash(t *testing.T, l *lot, d *sector.Device, p *plain, touched api.Place) *frags.Frags {
	t.Helper()
	d.Crash(uint64(l.below(1<<30)), 0)
	f := opened(t, d)
	there := slices.Contains(f.List(), touched)
	_, was := p.bodies[touched]
	if p.cut && was && !there {
		delete(p.bodies, touched)
	}
	if p.cut && !was && there {
		p.bodies[touched] = p.cutOff
	}
	p.cut = false
	return f
}

func TestAgainstPlain(t *testing.T) {
	l := lot(11)
	for range 150 {
		slots := l.below(6)
		d := sector.New(wide*slots + l.below(wide))
		slots = d.Sectors() / wide
		p := &plain{slots: slots, bodies: map[api.Place]string{}}
		f := opened(t, d)
		touched := api.Place{}
		for range 60 {
			place := at(l.below(4)-1+l.below(2), l.below(4)*3)
			steps := l.below(12) - 1
			if l.below(3) > 0 {
				steps = all
			}
			was := p.cut
			switch l.below(8) {
			case 0:
				f = crash(t, &l, d, p, touched)
				was = true
			case 1, 2, 3:
				body := strings.Repeat(string([]byte{byte(l.below(3))}), l.below(full+20))
				if got, want := f.Put(place, body, steps), p.put(place, body, steps); got != want {
					t.Fatalf("Put(%v, %d bytes, %d): %d, want %d", place, len(body), steps, got, want)
				}
			case 4, 5:
				if got, want := f.Delete(place, steps), p.remove(place, steps); got != want {
					t.Fatalf("Delete(%v, %d): %d, want %d", place, steps, got, want)
				}
			}
			if p.cut && !was {
				touched = place
			}
			wantList(t, "in a row", f, slots-len(p.bodies), p.list()...)
			for _, at := range append(p.list(), place) {
				body, err := p.get(at)
				wantGet(t, "in a row", f, at, body, err)
			}
			if t.Failed() {
				return
			}
		}
	}
}

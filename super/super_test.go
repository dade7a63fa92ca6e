package super_test

import (
	"encoding/binary"
	"hash/crc32"
	"math"
	"slices"
	"strings"
	"testing"
	"unsafe"

	"hurdle/api"
	"hurdle/sector"
	"hurdle/super"
)

const (
	room     = 244
	size     = 256
	greatest = 1<<31 - 1
)

// lot gives numbers of many values, the same ones each time.
type lot uint64

func (l *lot) below(n int) int {
	*l = *l*6364136223846793005 + 1442695040888963407
	return int(uint64(*l)>>33) % n
}

func many(n int) string { return strings.Repeat("x", n) }

// sealed is a place of any heads and any bytes behind them, with a good sum.
func sealed(generation, length uint32, rest string) string {
	b := binary.LittleEndian.AppendUint32(nil, generation)
	b = binary.LittleEndian.AppendUint32(b, length)
	b = append(b, rest...)
	b = append(b, make([]byte, max(0, size-4-len(b)))...)
	return string(binary.LittleEndian.AppendUint32(b, crc32.ChecksumIEEE(b)))
}

// placed is a device of 8 sectors with these places, both flushed.
func placed(t *testing.T, even, odd string) *sector.Device {
	t.Helper()
	d := sector.New(8)
	for i, s := range []string{even, odd} {
		if s == "" {
			continue
		}
		if err := d.Write(4*i, s); err != api.OK {
			t.Fatalf("a place of %d bytes is refused: %d", len(s), err)
		}
	}
	d.Flush()
	return d
}

func wantRead(t *testing.T, what string, d *sector.Device, body string, generation int, err api.Errno) {
	t.Helper()
	b, g, e := super.Read(d)
	if b != body || g != generation || e != err {
		t.Errorf("%s: Read: %q, %d and %d, want %q, %d and %d", what, b, g, e, body, generation, err)
	}
}

func wantWrite(t *testing.T, what string, d *sector.Device, body string, err api.Errno) {
	t.Helper()
	if e := super.Write(d, body); e != err {
		t.Errorf("%s: Write of %d bytes: %d, want %d", what, len(body), e, err)
	}
}

// picture is all that a device holds.
func picture(t *testing.T, d *sector.Device) string {
	t.Helper()
	s, err := d.Read(0, d.Sectors())
	if err != api.OK {
		t.Fatalf("the device tells %d", err)
	}
	return s
}

func TestRoom(t *testing.T) {
	if super.Room() != room {
		t.Errorf("Room: %d", super.Room())
	}
}

func TestPack(t *testing.T) {
	for _, c := range []struct {
		body       string
		generation int
	}{
		{"", 1},
		{"a", 1},
		{"a\x00", 2},
		{"\x00\x00", 3},
		{"abc", 0x01020304},
		{many(room - 1), 255},
		{many(room), 256},
		{"\xff", greatest - 1},
		{many(room), greatest},
	} {
		got, err := super.Pack(c.body, c.generation)
		want := sealed(uint32(c.generation), uint32(len(c.body)), c.body)
		if got != want || err != api.OK {
			t.Errorf("Pack(%q, %d): %q and %d, want %q", c.body, c.generation, got, err, want)
		}
	}
}

func TestPackByHand(t *testing.T) {
	got, _ := super.Pack("ab", 0x01020304)
	if len(got) != size || !strings.HasPrefix(got, "\x04\x03\x02\x01\x02\x00\x00\x00ab\x00") {
		t.Errorf("Pack: %q", got)
	}
	if strings.Trim(got[10:252], "\x00") != "" {
		t.Errorf("behind the body: %q", got[10:252])
	}
	if sum := binary.LittleEndian.Uint32([]byte(got[252:])); sum != crc32.ChecksumIEEE([]byte(got[:252])) {
		t.Errorf("the sum is %x", sum)
	}
}

func TestPackRefuses(t *testing.T) {
	for _, c := range []struct {
		body       string
		generation int
		err        api.Errno
	}{
		{"a", 0, api.ErrArg},
		{"a", -1, api.ErrArg},
		{"a", greatest + 1, api.ErrArg},
		{"a", 1<<32 + 1, api.ErrArg},
		{"a", math.MinInt, api.ErrArg},
		{"a", math.MaxInt, api.ErrArg},
		{many(room + 1), 1, api.ErrSize},
		{many(room + 1), greatest, api.ErrSize},
		{many(size), 1, api.ErrSize},
		{many(1 << 20), 1, api.ErrSize},
		{many(room + 1), 0, api.ErrArg},
		{many(room + 1), greatest + 1, api.ErrArg},
	} {
		got, err := super.Pack(c.body, c.generation)
		if got != "" || err != c.err {
			t.Errorf("Pack of %d bytes as %d: %q and %d, want %d", len(c.body), c.generation, got, err, c.err)
		}
	}
}

func TestReadOfNew(t *testing.T) {
	for _, n := range []int{8, 9, api.MaxSectors} {
		d := sector.New(n)
		wantRead(t, "new", d, "", 0, api.ErrNone)
	}
}

func TestGenerationsTakeTurns(t *testing.T) {
	d := sector.New(9)
	before := ""
	for g := 1; g <= 6; g++ {
		body := many(g)
		wantWrite(t, "in turn", d, body, api.OK)
		wantRead(t, "in turn", d, body, g, api.OK)
		if len(d.Loose()) != 0 {
			t.Errorf("behind Write %d are loose: %d", g, d.Loose())
		}
		now, _ := super.Pack(body, g)
		whole := picture(t, d)
		even, odd := now, before
		if g%2 == 1 {
			even, odd = before, now
		}
		if even == "" {
			even = strings.Repeat("\x00", size)
		}
		if whole != even+odd+strings.Repeat("\x00", api.Sector) {
			t.Errorf("generation %d stands elsewhere: %q", g, whole)
		}
		before = now
	}
}

func TestWriteOfEdges(t *testing.T) {
	d := sector.New(8)
	for i, body := range []string{"", "\x00", many(room), "", "a\x00", many(room - 1)} {
		wantWrite(t, "an edge", d, body, api.OK)
		wantRead(t, "an edge", d, body, i+1, api.OK)
	}
	whole := picture(t, d)
	wantWrite(t, "too long", d, many(room+1), api.ErrSize)
	wantWrite(t, "far too long", d, many(1<<20), api.ErrSize)
	if picture(t, d) != whole {
		t.Error("a Write that is refused changes the device")
	}
}

func TestDeviceRefuses(t *testing.T) {
	lost, small := sector.New(8), sector.New(7)
	wantWrite(t, "ahead of the loss", lost, "a", api.OK)
	lost.Lose()
	smallLost := sector.New(7)
	smallLost.Lose()
	for _, c := range []struct {
		what string
		d    *sector.Device
		err  api.Errno
	}{
		{"nil", nil, api.ErrArg},
		{"lost", lost, api.ErrDown},
		{"of 7 sectors", small, api.ErrFull},
		{"of 4 sectors", sector.New(4), api.ErrFull},
		{"of 1 sector", sector.New(1), api.ErrFull},
		{"of 7 sectors, and lost", smallLost, api.ErrFull},
	} {
		wantRead(t, c.what, c.d, "", 0, c.err)
		wantWrite(t, c.what, c.d, "a", c.err)
		wantWrite(t, c.what, c.d, many(room), c.err)
		long := api.ErrSize
		if c.d == nil {
			long = api.ErrArg
		}
		wantWrite(t, c.what, c.d, many(room+1), long)
	}
	if len(small.Loose()) != 0 || strings.Trim(picture(t, small), "\x00") != "" {
		t.Error("a Write that is refused writes")
	}
}

// A small device whose place for even generations is there refuses even so: both places are read.
func TestSmallDeviceWithOnePlace(t *testing.T) {
	d := sector.New(5)
	packed, _ := super.Pack("a", 2)
	d.Write(0, packed)
	wantRead(t, "of 5 sectors", d, "", 0, api.ErrFull)
	wantWrite(t, "of 5 sectors", d, "b", api.ErrFull)
}

func TestLastGeneration(t *testing.T) {
	odd, _ := super.Pack("last", greatest)
	even, _ := super.Pack("before", greatest-1)
	d := placed(t, even, odd)
	wantRead(t, "last", d, "last", greatest, api.OK)
	d.Write(7, strings.Repeat("\x00", api.Sector))
	wantRead(t, "before last", d, "before", greatest-1, api.OK)
	wantWrite(t, "to the last", d, "again", api.OK)
	wantRead(t, "to the last", d, "again", greatest, api.OK)
	whole := picture(t, d)
	d.Write(0, whole[:api.Sector])
	wantWrite(t, "beyond the last", d, "more", api.ErrFull)
	wantWrite(t, "beyond the last, too long", d, many(room+1), api.ErrSize)
	if picture(t, d) != whole || !slices.Equal(d.Loose(), []int{0}) {
		t.Error("a Write that is refused writes or flushes")
	}
}

func TestWhatCounts(t *testing.T) {
	good := sealed(2, 3, "abc")
	spoilt := []byte(good)
	spoilt[100] ^= 1
	for _, c := range []struct {
		what      string
		even, odd string
		body      string
		g         int
		err       api.Errno
	}{
		{"even alone", good, "", "abc", 2, api.OK},
		{"odd alone", "", sealed(7, 1, "z"), "z", 7, api.OK},
		{"even is greater", sealed(6, 1, "e"), sealed(5, 1, "o"), "e", 6, api.OK},
		{"odd is greater", sealed(6, 1, "e"), sealed(7, 1, "o"), "o", 7, api.OK},
		{"even is far greater", sealed(1<<30, 1, "e"), sealed(3, 1, "o"), "e", 1 << 30, api.OK},
		{"odd is far greater", sealed(4, 1, "e"), sealed(greatest, 1, "o"), "o", greatest, api.OK},
		{"a body of none", sealed(2, 0, ""), sealed(1, 1, "o"), "", 2, api.OK},
		{"a full body", sealed(2, room, many(room)), "", many(room), 2, api.OK},
		{"a body with bytes 0", sealed(2, 3, "a"), "", "a\x00\x00", 2, api.OK},
		{"at the other's place, even", sealed(3, 1, "e"), "", "", 0, api.ErrNone},
		{"at the other's place, odd", "", sealed(4, 1, "o"), "", 0, api.ErrNone},
		{"both at the other's place", sealed(5, 1, "e"), sealed(4, 1, "o"), "", 0, api.ErrNone},
		{"a greater one at the other's place", sealed(9, 1, "e"), sealed(1, 1, "o"), "o", 1, api.OK},
		{"generation 0", sealed(0, 1, "e"), "", "", 0, api.ErrNone},
		{"generation 2^31", sealed(1<<31, 1, "e"), sealed(1, 1, "o"), "o", 1, api.OK},
		{"generation 2^32 - 1", sealed(2, 1, "e"), sealed(1<<32-1, 1, "o"), "e", 2, api.OK},
		{"a length beyond", sealed(2, room+1, many(room)), "", "", 0, api.ErrNone},
		{"a length far beyond", sealed(2, 1<<32-1, many(room)), "", "", 0, api.ErrNone},
		{"a length of 2^31", sealed(2, 1<<31, many(room)), "", "", 0, api.ErrNone},
		{"a length of 256 and 1", sealed(2, 257, "a"), "", "", 0, api.ErrNone},
		{"a byte behind the body", sealed(2, 1, "ab"), "", "", 0, api.ErrNone},
		{"a byte at the end", sealed(2, 1, "a"+strings.Repeat("\x00", 242)+"b"), "", "", 0, api.ErrNone},
		{"a byte behind none", sealed(2, 0, "b"), "", "", 0, api.ErrNone},
		{"a spoilt one", string(spoilt), "", "", 0, api.ErrNone},
		{"a spoilt greater one", string(spoilt), sealed(1, 1, "o"), "o", 1, api.OK},
		{"a spoilt sum", good[:255] + string([]byte{good[255] ^ 128}), "", "", 0, api.ErrNone},
	} {
		d := placed(t, c.even, c.odd)
		wantRead(t, c.what, d, c.body, c.g, c.err)
		if len(d.Loose()) != 0 {
			t.Errorf("%s: Read writes", c.what)
		}
		before := picture(t, d)
		if c.g == greatest {
			continue
		}
		wantWrite(t, c.what, d, "next", api.OK)
		wantRead(t, c.what, d, "next", c.g+1, api.OK)
		other := c.g % 2 * size
		if picture(t, d)[other:other+size] != before[other:other+size] {
			t.Errorf("%s: Write changes the other place", c.what)
		}
	}
}

// What was written and not flushed counts as well: it is what the device tells.
func TestReadOfLoose(t *testing.T) {
	d := sector.New(8)
	d.Write(0, sealed(2, 1, "e"))
	wantRead(t, "loose", d, "e", 2, api.OK)
	wantWrite(t, "loose", d, "o", api.OK)
	if len(d.Loose()) != 0 {
		t.Error("Write doesn't flush the whole device")
	}
	wantRead(t, "loose", d, "o", 3, api.OK)
	d.Crash(0, 0)
	wantRead(t, "behind a crash", d, "o", 3, api.OK)
}

// A Write that is cut off: its sectors stay in part, one is torn.
func TestWriteCutOff(t *testing.T) {
	bodies := []string{"first", many(room), many(room / 2), ""}
	for g := 1; g <= len(bodies); g++ {
		for keep := range uint64(16) {
			for _, tear := range []int{0, 1, 4, 5, 8, 9, 20, 63} {
				d := sector.New(8)
				for _, body := range bodies[:g-1] {
					wantWrite(t, "ahead", d, body, api.OK)
				}
				before := picture(t, d)
				packed, _ := super.Pack(bodies[g-1], g)
				d.Write(g%2*4, packed)
				d.Crash(keep, tear)
				other := (g + 1) % 2 * size
				now := picture(t, d)
				if now[other:other+size] != before[other:other+size] {
					t.Fatalf("generation %d cut off: the other place is another one", g)
				}
				// With little enough in a body, the sectors that were lost held nothing.
				body, told, err := "", g-1, api.OK
				if g > 1 {
					body = bodies[g-2]
				} else {
					err = api.ErrNone
				}
				if now[size-other:2*size-other] == packed {
					body, told, err = bodies[g-1], g, api.OK
				}
				wantRead(t, "cut off", d, body, told, err)
				wantWrite(t, "behind it", d, "again", api.OK)
				wantRead(t, "behind it", d, "again", told+1, api.OK)
			}
		}
	}
}

func TestCrashBehindWrite(t *testing.T) {
	d := sector.New(8)
	wantWrite(t, "one", d, "one", api.OK)
	d.Crash(0, 1)
	wantRead(t, "behind a crash", d, "one", 1, api.OK)
	wantWrite(t, "two", d, "two", api.OK)
	d.Crash(0, 63)
	wantRead(t, "behind a crash", d, "two", 2, api.OK)
}

// Each bit that is another one in the greater place lets the other place count.
func TestSpoiltBits(t *testing.T) {
	d := sector.New(8)
	wantWrite(t, "one", d, "one", api.OK)
	wantWrite(t, "two", d, "two", api.OK)
	whole := picture(t, d)
	for bit := range size * 8 {
		b := []byte(whole[:size])
		b[bit/8] ^= 1 << (bit % 8)
		wantRead(t, "spoilt", placed(t, string(b), whole[size:]), "one", 1, api.OK)
	}
}

func shares(a, b string) bool {
	return a != "" && b != "" && unsafe.StringData(a) == unsafe.StringData(b)
}

func TestAnswersAreNewMemory(t *testing.T) {
	d := sector.New(8)
	body := strings.Clone("a body")
	wantWrite(t, "one", d, body, api.OK)
	first, _, _ := super.Read(d)
	second, _, _ := super.Read(d)
	if shares(first, second) || shares(first, body) {
		t.Error("bodies share memory")
	}
	a, _ := super.Pack(body, 1)
	b, _ := super.Pack(body, 1)
	if shares(a, b) {
		t.Error("packs share memory")
	}
}

// plain holds what both places are known to tell.
type plain struct {
	bodies      [2]string
	generations [2]int
}

func (p *plain) read() (string, int, api.Errno) {
	at := 0
	if p.generations[1] > p.generations[0] {
		at = 1
	}
	if p.generations[at] == 0 {
		return "", 0, api.ErrNone
	}
	return p.bodies[at], p.generations[at], api.OK
}

func (p *plain) write(body string) api.Errno {
	if len(body) > room {
		return api.ErrSize
	}
	_, g, _ := p.read()
	p.bodies[(g+1)%2], p.generations[(g+1)%2] = body, g+1
	return api.OK
}

func TestAgainstPlain(t *testing.T) {
	l := lot(10)
	for range 200 {
		d, p := sector.New(8+l.below(3)), &plain{}
		for range 40 {
			switch l.below(5) {
			case 0:
				at := l.below(2)
				b := []byte(picture(t, d))[at*size : (at+1)*size]
				b[l.below(size)] ^= byte(1 + l.below(255))
				if p.generations[at] != 0 {
					d.Write(4*at, string(b))
					p.bodies[at], p.generations[at] = "", 0
				}
				d.Flush()
			case 1:
				d.Crash(uint64(l.below(256)), l.below(64))
			default:
				body := strings.Repeat(string([]byte{byte(l.below(4))}), l.below(room+10))
				if got, want := super.Write(d, body), p.write(body); got != want {
					t.Fatalf("Write of %d bytes: %d, want %d", len(body), got, want)
				}
			}
			body, g, err := p.read()
			wantRead(t, "in a row", d, body, g, err)
			if t.Failed() {
				return
			}
		}
	}
}

package sector_test

import (
	"math"
	"slices"
	"strings"
	"testing"
	"unsafe"

	"hurdle/api"
	"hurdle/sector"
)

// lot gives numbers of many values, the same ones each time.
type lot uint64

func (l *lot) below(n int) int {
	*l = *l*6364136223846793005 + 1442695040888963407
	return int(uint64(*l)>>33) % n
}

// plain is a device with the chapter's words done one at a time: two whole pictures, and who is loose.
type plain struct {
	now, flushed []byte
	loose        []bool
	lost         bool
}

func newPlain(n int) *plain {
	return &plain{now: make([]byte, n*api.Sector), flushed: make([]byte, n*api.Sector), loose: make([]bool, n)}
}

func (p *plain) refused(at, n int) api.Errno {
	switch {
	case at < 0 || n < 1:
		return api.ErrArg
	case at >= len(p.loose) || n > len(p.loose)-at:
		return api.ErrFull
	case p.lost:
		return api.ErrDown
	}
	return api.OK
}

func (p *plain) write(at int, s string) api.Errno {
	if at < 0 || s == "" || len(s)%api.Sector != 0 {
		return api.ErrArg
	}
	if err := p.refused(at, len(s)/api.Sector); err != api.OK {
		return err
	}
	copy(p.now[at*api.Sector:], s)
	for i := range len(s) / api.Sector {
		p.loose[at+i] = true
	}
	return api.OK
}

func (p *plain) read(at, n int) (string, api.Errno) {
	if err := p.refused(at, n); err != api.OK {
		return "", err
	}
	return string(p.now[at*api.Sector : (at+n)*api.Sector]), api.OK
}

func (p *plain) flush() {
	p.flushed = slices.Clone(p.now)
	clear(p.loose)
}

func (p *plain) crash(keep uint64, tear int) {
	after := slices.Clone(p.flushed)
	torn := false
	for k, i := range p.looseOnes() {
		from, to := i*api.Sector, (i+1)*api.Sector
		if k < 64 && keep&(1<<k) != 0 {
			copy(after[from:to], p.now[from:to])
		} else if !torn {
			torn = true
			if tear >= 1 && tear <= 63 {
				copy(after[from:from+tear], p.now[from:from+tear])
			}
		}
	}
	p.now = after
	p.flush()
}

func (p *plain) lose() {
	p.lost = true
	clear(p.loose)
}

func (p *plain) looseOnes() []int {
	var l []int
	for i, is := range p.loose {
		if is {
			l = append(l, i)
		}
	}
	return l
}

// of are sectors, each of one byte of bs.
func of(bs string) string {
	var b strings.Builder
	for i := range len(bs) {
		b.WriteString(strings.Repeat(bs[i:i+1], api.Sector))
	}
	return b.String()
}

// each tells the sectors of s by their first bytes, if each is of one byte.
func each(s string) string {
	var b strings.Builder
	for from := 0; from+api.Sector <= len(s); from += api.Sector {
		if s[from:from+api.Sector] != of(s[from:from+1]) {
			return "uneven"
		}
		b.WriteByte(s[from])
	}
	return b.String()
}

// made is a device of n sectors.
func made(t *testing.T, n int) *sector.Device {
	t.Helper()
	d := sector.New(n)
	if d == nil {
		t.Fatal("nothing is there")
	}
	return d
}

// filled is a device whose sectors are of the bytes of bs, and none loose.
func filled(t *testing.T, bs string) *sector.Device {
	t.Helper()
	d := made(t, len(bs))
	wantWrite(t, d, 0, of(bs), api.OK)
	d.Flush()
	return d
}

func wantWrite(t *testing.T, d *sector.Device, at int, s string, want api.Errno) {
	t.Helper()
	if got := d.Write(at, s); got != want {
		t.Errorf("Write(%d, %d bytes): %d, not %d", at, len(s), got, want)
	}
}

// wantRead asks for sectors from at on, each of one byte of bs.
func wantRead(t *testing.T, d *sector.Device, at int, bs string) {
	t.Helper()
	wantText(t, d, at, of(bs))
}

func wantText(t *testing.T, d *sector.Device, at int, s string) {
	t.Helper()
	got, err := d.Read(at, len(s)/api.Sector)
	if got != s || err != api.OK {
		t.Errorf("Read(%d, %d): %q, %d, not %q", at, len(s)/api.Sector, each(got), err, each(s))
	}
}

func wantNoRead(t *testing.T, d *sector.Device, at, n int, want api.Errno) {
	t.Helper()
	if got, err := d.Read(at, n); got != "" || err != want {
		t.Errorf("Read(%d, %d): %d bytes, %d, not %d", at, n, len(got), err, want)
	}
}

func wantLoose(t *testing.T, d *sector.Device, want ...int) {
	t.Helper()
	if got := d.Loose(); !slices.Equal(got, want) {
		t.Errorf("Loose: %v, not %v", got, want)
	}
}

func TestExample(t *testing.T) {
	d := made(t, 2)
	wantWrite(t, d, 0, of("ab"), api.OK)
	d.Crash(2, 0)
	wantRead(t, d, 0, "\x00b")
}

func TestNew(t *testing.T) {
	for _, c := range []struct{ n, want int }{
		{1, 1}, {2, 2}, {64, 64}, {4095, 4095}, {4096, 4096},
		{0, 1}, {-1, 1}, {math.MinInt, 1}, {4097, 4096}, {math.MaxInt, 4096},
	} {
		d := made(t, c.n)
		if got := d.Sectors(); got != c.want {
			t.Errorf("New(%d): %d sectors, not %d", c.n, got, c.want)
		}
		wantText(t, d, 0, strings.Repeat("\x00", c.want*64))
		wantNoRead(t, d, c.want, 1, api.ErrFull)
		wantLoose(t, d)
	}
}

func TestDevicesStandAlone(t *testing.T) {
	d, other := made(t, 2), made(t, 2)
	wantWrite(t, d, 0, of("a"), api.OK)
	d.Lose()
	wantRead(t, other, 0, "\x00\x00")
	wantLoose(t, other)
}

func TestWrite(t *testing.T) {
	d := filled(t, "abcd")
	wantWrite(t, d, 1, of("xy"), api.OK)
	wantRead(t, d, 0, "axyd")
	wantLoose(t, d, 1, 2)
	wantWrite(t, d, 2, of("z"), api.OK)
	wantRead(t, d, 0, "axzd")
	wantLoose(t, d, 1, 2)
	wantWrite(t, d, 0, of("1234"), api.OK)
	wantRead(t, d, 0, "1234")
	wantLoose(t, d, 0, 1, 2, 3)
}

func TestWriteOfBytesThatAreUnlike(t *testing.T) {
	var s []byte
	for i := range 128 {
		s = append(s, byte(i*7))
	}
	d := made(t, 3)
	wantWrite(t, d, 1, string(s), api.OK)
	wantText(t, d, 1, string(s))
	wantText(t, d, 2, string(s[64:]))
	wantRead(t, d, 0, "\x00")
}

func TestWriteOfTheSameIsLoose(t *testing.T) {
	d := filled(t, "ab")
	wantWrite(t, d, 1, of("b"), api.OK)
	wantLoose(t, d, 1)
	zeros := made(t, 2)
	wantWrite(t, zeros, 0, of("\x00"), api.OK)
	wantLoose(t, zeros, 0)
}

func TestWriteOfAllSectors(t *testing.T) {
	d := made(t, api.MaxSectors)
	s := strings.Repeat(of("ab"), api.MaxSectors/2)
	wantWrite(t, d, 0, s, api.OK)
	wantText(t, d, 0, s)
	if l := d.Loose(); len(l) != api.MaxSectors || l[0] != 0 || l[api.MaxSectors-1] != api.MaxSectors-1 {
		t.Errorf("%d sectors are loose", len(l))
	}
}

func TestWriteRefuses(t *testing.T) {
	for _, c := range []struct {
		at   int
		s    string
		want api.Errno
	}{
		{-1, of("x"), api.ErrArg}, {math.MinInt, of("x"), api.ErrArg}, {0, "", api.ErrArg}, {3, "", api.ErrArg}, {math.MaxInt, "", api.ErrArg},
		{0, "x", api.ErrArg}, {0, of("x")[1:], api.ErrArg}, {0, of("x") + "x", api.ErrArg}, {0, of("xx")[1:], api.ErrArg},
		{3, of("x"), api.ErrFull}, {2, of("xx"), api.ErrFull}, {0, of("xxxx"), api.ErrFull}, {4, of("x"), api.ErrFull}, {math.MaxInt, of("x"), api.ErrFull}, {math.MaxInt, of("xxx"), api.ErrFull},
		{-1, of("xxxxxxxx"), api.ErrArg}, {3, "x", api.ErrArg}, {0, of("xxxx") + "x", api.ErrArg},
	} {
		d := filled(t, "abc")
		wantWrite(t, d, c.at, c.s, c.want)
		wantRead(t, d, 0, "abc")
		wantLoose(t, d)
	}
	d := filled(t, "abc")
	wantWrite(t, d, 2, of("x"), api.OK)
	wantWrite(t, d, 0, of("xyz"), api.OK)
}

func TestRead(t *testing.T) {
	d := filled(t, "abcd")
	wantRead(t, d, 0, "abcd")
	wantRead(t, d, 1, "bc")
	wantRead(t, d, 3, "d")
	wantWrite(t, d, 2, of("x"), api.OK)
	wantRead(t, d, 1, "bxd")
	wantRead(t, d, 2, "x")
	wantLoose(t, d, 2)
}

func TestReadRefuses(t *testing.T) {
	d := filled(t, "abc")
	for _, c := range []struct {
		at, n int
		want  api.Errno
	}{
		{-1, 1, api.ErrArg}, {math.MinInt, 1, api.ErrArg}, {0, 0, api.ErrArg}, {0, -1, api.ErrArg}, {0, math.MinInt, api.ErrArg}, {math.MinInt, math.MinInt, api.ErrArg},
		{3, 1, api.ErrFull}, {2, 2, api.ErrFull}, {0, 4, api.ErrFull}, {0, math.MaxInt, api.ErrFull}, {math.MaxInt, 1, api.ErrFull}, {math.MaxInt, math.MaxInt, api.ErrFull},
		{-1, 9, api.ErrArg}, {9, 0, api.ErrArg}, {math.MaxInt, math.MinInt, api.ErrArg}, {math.MinInt, math.MaxInt, api.ErrArg},
	} {
		wantNoRead(t, d, c.at, c.n, c.want)
	}
}

func TestFlush(t *testing.T) {
	d := made(t, 3)
	wantWrite(t, d, 0, of("ab"), api.OK)
	d.Flush()
	wantLoose(t, d)
	wantRead(t, d, 0, "ab\x00")
	d.Crash(0, 0)
	wantRead(t, d, 0, "ab\x00")
	d.Flush()
	wantRead(t, d, 0, "ab\x00")
	wantWrite(t, d, 1, of("x"), api.OK)
	wantLoose(t, d, 1)
	d.Crash(0, 0)
	wantRead(t, d, 0, "ab\x00")
}

func TestFlushOfWhatWasWrittenLast(t *testing.T) {
	d := made(t, 2)
	wantWrite(t, d, 0, of("a"), api.OK)
	wantWrite(t, d, 0, of("b"), api.OK)
	d.Flush()
	d.Crash(0, 0)
	wantRead(t, d, 0, "b\x00")
}

func TestLooseRises(t *testing.T) {
	d := made(t, 100)
	for _, at := range []int{70, 3, 99, 3, 0, 71, 5} {
		wantWrite(t, d, at, of("x"), api.OK)
	}
	wantLoose(t, d, 0, 3, 5, 70, 71, 99)
}

func TestLooseIsNewMemory(t *testing.T) {
	d := made(t, 4)
	wantWrite(t, d, 1, of("xy"), api.OK)
	l := d.Loose()
	l[0], l[1] = 9, 9
	_ = append(l, 7)
	wantLoose(t, d, 1, 2)
	d.Crash(2, 0)
	wantRead(t, d, 0, "\x00\x00y\x00")
}

func TestTextsAreNewMemory(t *testing.T) {
	// What a text points at is asked, since nothing else shows a text that shares its memory.
	s := strings.Clone(of("a"))
	d := made(t, 2)
	wantWrite(t, d, 0, s, api.OK)
	one, _ := d.Read(0, 1)
	two, _ := d.Read(0, 1)
	zero, _ := d.Read(1, 1)
	nought, _ := d.Read(1, 1)
	if unsafe.StringData(one) == unsafe.StringData(s) || unsafe.StringData(one) == unsafe.StringData(two) || unsafe.StringData(zero) == unsafe.StringData(nought) {
		t.Error("two texts share their memory")
	}
}

func TestCrash(t *testing.T) {
	for _, c := range []struct {
		keep uint64
		want string
	}{
		{0, "abcdef"}, {1, "aBcdef"}, {2, "abcDef"}, {4, "abcdeF"}, {5, "aBcdeF"}, {7, "aBcDeF"}, {8, "abcdef"}, {math.MaxUint64, "aBcDeF"}, {math.MaxUint64 - 7, "abcdef"},
	} {
		d := filled(t, "abcdef")
		// Not in the order of their numbers: the k-th is of those that rise.
		wantWrite(t, d, 5, of("F"), api.OK)
		wantWrite(t, d, 1, of("?"), api.OK)
		wantWrite(t, d, 3, of("D"), api.OK)
		wantWrite(t, d, 1, of("B"), api.OK)
		d.Crash(c.keep, 0)
		wantRead(t, d, 0, c.want)
		wantLoose(t, d)
		d.Crash(math.MaxUint64, 0)
		wantRead(t, d, 0, c.want)
		d.Crash(0, 63)
		wantRead(t, d, 0, c.want)
	}
}

func TestCrashAgain(t *testing.T) {
	d := filled(t, "abc")
	wantWrite(t, d, 0, of("xyz"), api.OK)
	d.Crash(2, 0)
	wantRead(t, d, 0, "ayc")
	wantWrite(t, d, 1, of("12"), api.OK)
	wantLoose(t, d, 1, 2)
	d.Crash(0, 0)
	wantRead(t, d, 0, "ayc")
	wantWrite(t, d, 1, of("12"), api.OK)
	d.Crash(1, 0)
	wantRead(t, d, 0, "a1c")
}

func TestCrashTears(t *testing.T) {
	for _, tear := range []int{1, 2, 32, 62, 63} {
		torn := func(from, to string) string { return of(to)[:tear] + of(from)[tear:] }
		for _, c := range []struct {
			keep uint64
			want string
		}{
			{0, of("a") + torn("b", "x") + of("cde")},
			{1, of("ax") + torn("c", "y") + of("de")},
			{2, of("a") + torn("b", "x") + of("yde")},
			{3, of("axy") + torn("d", "z") + of("e")},
			{6, of("a") + torn("b", "x") + of("yze")},
			{5, of("ax") + torn("c", "y") + of("ze")},
			{7, of("axyze")},
		} {
			d := filled(t, "abcde")
			wantWrite(t, d, 1, of("xyz"), api.OK)
			d.Crash(c.keep, tear)
			if got, err := d.Read(0, 5); got != c.want || err != api.OK {
				t.Errorf("Crash(%d, %d): %q, %d", c.keep, tear, got, err)
			}
			wantLoose(t, d)
			d.Crash(0, 0)
			if got, _ := d.Read(0, 5); got != c.want {
				t.Errorf("Crash(%d, %d), and another: %q", c.keep, tear, got)
			}
		}
	}
}

func TestCrashDoesNotTear(t *testing.T) {
	for _, tear := range []int{0, -1, -63, 64, 65, 128, math.MinInt, math.MaxInt} {
		d := filled(t, "abc")
		wantWrite(t, d, 0, of("xyz"), api.OK)
		d.Crash(2, tear)
		wantRead(t, d, 0, "ayc")
		wantLoose(t, d)
	}
}

func TestCrashTearsWhatWasWrittenLast(t *testing.T) {
	d := filled(t, "ab")
	wantWrite(t, d, 0, of("x"), api.OK)
	wantWrite(t, d, 0, of("y"), api.OK)
	d.Crash(0, 10)
	wantText(t, d, 0, of("y")[:10]+of("a")[10:]+of("b"))
}

func TestCrashKeepsNoneFromThe65thOn(t *testing.T) {
	d := filled(t, strings.Repeat("a", 131))
	wantWrite(t, d, 1, of(strings.Repeat("x", 130)), api.OK)
	d.Crash(math.MaxUint64, 0)
	wantRead(t, d, 0, "a"+strings.Repeat("x", 64)+strings.Repeat("a", 66))
	wantLoose(t, d)
	// All 64 that have a bit stay: the 65th is the first that does not.
	wantWrite(t, d, 1, of(strings.Repeat("y", 130)), api.OK)
	d.Crash(math.MaxUint64, 7)
	wantText(t, d, 0, of("a"+strings.Repeat("y", 64))+of("y")[:7]+of("a")[7:]+of(strings.Repeat("a", 65)))
	// The 64th has the highest bit.
	wantWrite(t, d, 0, of(strings.Repeat("z", 131)), api.OK)
	d.Crash(1<<63, 0)
	wantRead(t, d, 63, "z")
	wantRead(t, d, 62, "y")
	wantRead(t, d, 64, "y")
}

func TestLose(t *testing.T) {
	d := filled(t, "abc")
	wantWrite(t, d, 1, of("x"), api.OK)
	d.Lose()
	lost := func() {
		t.Helper()
		wantLoose(t, d)
		if d.Sectors() != 3 {
			t.Errorf("%d sectors", d.Sectors())
		}
		wantNoRead(t, d, 0, 1, api.ErrDown)
		wantNoRead(t, d, 0, 3, api.ErrDown)
		wantWrite(t, d, 2, of("z"), api.ErrDown)
		wantWrite(t, d, 0, of("xyz"), api.ErrDown)
	}
	lost()
	d.Flush()
	lost()
	d.Crash(math.MaxUint64, 5)
	lost()
	d.Lose()
	lost()
}

func TestLostRefusesByTheLeastNumber(t *testing.T) {
	d := filled(t, "abc")
	d.Lose()
	wantWrite(t, d, -1, of("x"), api.ErrArg)
	wantWrite(t, d, 0, "", api.ErrArg)
	wantWrite(t, d, 0, "x", api.ErrArg)
	wantWrite(t, d, 3, of("x"), api.ErrFull)
	wantWrite(t, d, 1, of("xyz"), api.ErrFull)
	wantNoRead(t, d, -1, 1, api.ErrArg)
	wantNoRead(t, d, 0, 0, api.ErrArg)
	wantNoRead(t, d, 3, 1, api.ErrFull)
	wantNoRead(t, d, 0, 4, api.ErrFull)
	wantNoRead(t, d, 0, math.MaxInt, api.ErrFull)
}

func TestNil(t *testing.T) {
	var d *sector.Device
	d.Flush()
	d.Crash(math.MaxUint64, 5)
	d.Lose()
	wantWrite(t, d, 0, of("x"), api.ErrArg)
	wantWrite(t, d, math.MaxInt, of("x"), api.ErrArg)
	wantWrite(t, d, 0, "", api.ErrArg)
	wantNoRead(t, d, 0, 1, api.ErrArg)
	wantNoRead(t, d, math.MaxInt, math.MaxInt, api.ErrArg)
	wantLoose(t, d)
	if d.Sectors() != 0 {
		t.Errorf("%d sectors", d.Sectors())
	}
}

// text is a text of sectors of bytes of many values; now and then one that is no such text.
func (l *lot) text() string {
	s := make([]byte, api.Sector*l.below(5))
	if l.below(12) == 0 {
		s = make([]byte, l.below(200))
	}
	for i := range s {
		s[i] = byte(l.below(256))
	}
	return string(s)
}

func TestAgainstPlain(t *testing.T) {
	l := lot(9)
	for range 60 {
		n := 1 + l.below(12)
		if l.below(4) == 0 {
			n = 60 + l.below(60)
		}
		d, p := made(t, n), newPlain(n)
		for range 300 {
			step(t, &l, d, p, n)
			got, err := d.Read(0, n)
			want, wantErr := p.read(0, n)
			if got != want || err != wantErr || !slices.Equal(d.Loose(), p.looseOnes()) || d.Sectors() != n {
				t.Fatalf("unlike: %d, not %d; loose %v, not %v", err, wantErr, d.Loose(), p.looseOnes())
			}
		}
	}
}

// step does one call to both, and holds their answers against each other.
func step(t *testing.T, l *lot, d *sector.Device, p *plain, n int) {
	t.Helper()
	switch l.below(20) {
	case 0, 1:
		d.Flush()
		p.flush()
	case 2, 3:
		keep, tear := uint64(l.below(1<<31))*uint64(l.below(1<<31)), l.below(90)-10
		d.Crash(keep, tear)
		p.crash(keep, tear)
	case 4, 5, 6:
		at, many := l.below(n+3)-1, l.below(n+3)-1
		got, err := d.Read(at, many)
		want, wantErr := p.read(at, many)
		if got != want || err != wantErr {
			t.Fatalf("Read(%d, %d): %d, not %d", at, many, err, wantErr)
		}
	case 7:
		if l.below(20) == 0 {
			d.Lose()
			p.lose()
		}
	default:
		at, s := l.below(n+3)-1, l.text()
		if got, want := d.Write(at, s), p.write(at, s); got != want {
			t.Fatalf("Write(%d, %d bytes): %d, not %d", at, len(s), got, want)
		}
	}
}

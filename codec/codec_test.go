package codec_test

import (
	"math"
	"math/big"
	"slices"
	"strings"
	"testing"
	"unsafe"

	"hurdle/api"
	"hurdle/codec"
)

const most = api.MaxBytes

// plainInt is an int's bytes as the chapter's words tell them, worked out in numbers of any size.
func plainInt(n int) string {
	u := new(big.Int).Mul(big.NewInt(2), big.NewInt(int64(n)))
	if n < 0 {
		u.Neg(u).Sub(u, big.NewInt(1))
	}
	base := big.NewInt(128)
	var b []byte
	for {
		group := new(big.Int)
		u.DivMod(u, base, group)
		if u.Sign() == 0 {
			return string(append(b, byte(group.Int64())))
		}
		b = append(b, byte(group.Int64())+128)
	}
}

func plainText(s string) string { return plainInt(len(s)) + s }

func plainInts(l []int) string {
	all := plainInt(len(l))
	for _, n := range l {
		all += plainInt(n)
	}
	return all
}

func plainTexts(l []string) string {
	all := plainInt(len(l))
	for _, s := range l {
		all += plainText(s)
	}
	return all
}

// ints are ordinary ones and those at which the bytes grow by one.
func ints() []int {
	all := []int{math.MaxInt, math.MinInt, math.MaxInt - 1, math.MinInt + 1, most, most + 1, -most}
	for n := -300; n <= 300; n++ {
		all = append(all, n)
	}
	for i := range 63 {
		p := 1 << i
		all = append(all, p, p-1, p+1, -p, -p-1, 1-p)
	}
	return all
}

// lot gives numbers of many values, the same ones each time.
type lot uint64

func (l *lot) below(n int) int {
	*l = *l*6364136223846793005 + 1442695040888963407
	return int(uint64(*l)>>33) % n
}

func (l *lot) text(n int) string {
	b := make([]byte, n)
	for i := range b {
		b[i] = byte(l.below(256))
	}
	return string(b)
}

func (l *lot) int() int {
	n := int(uint64(l.below(1<<31))<<33 | uint64(l.below(1<<31))<<2 | uint64(l.below(4)))
	return n >> l.below(64)
}

func (l *lot) ints(n int) []int {
	var all []int
	for range n {
		all = append(all, l.int())
	}
	return all
}

func (l *lot) texts(n int) []string {
	var all []string
	for range n {
		all = append(all, l.text(l.below(5)))
	}
	return all
}

// written asks what a writer of at most so many bytes tells behind what do does.
func written(t *testing.T, most int, do func(*codec.Writer), want string, err api.Errno) {
	t.Helper()
	w := codec.NewWriter(most)
	do(w)
	if got, e := w.Done(); got != want || e != err {
		t.Errorf("Done: %.40q, %d, want %.40q, %d", got, e, want, err)
	}
}

// refused asks that what read reads of s is refused, and that all behind it is zero.
func refused(t *testing.T, s string, read func(*codec.Reader) bool) {
	t.Helper()
	r := codec.NewReader(s)
	if !read(r) {
		t.Errorf("%.40q: what is refused isn't zero", s)
	}
	allZero(t, r)
	if e := r.Done(); e != api.ErrSyntax {
		t.Errorf("%.40q: Done: %d", s, e)
	}
}

func allZero(t *testing.T, r *codec.Reader) {
	t.Helper()
	if r.Left() != 0 || r.Int() != 0 || r.Byte() != 0 || r.Text() != "" || len(r.Ints()) != 0 || len(r.Texts()) != 0 || r.Left() != 0 {
		t.Error("what is read behind an error isn't zero")
	}
}

func zeroInt(r *codec.Reader) bool   { return r.Int() == 0 }
func zeroByte(r *codec.Reader) bool  { return r.Byte() == 0 }
func zeroText(r *codec.Reader) bool  { return r.Text() == "" }
func zeroInts(r *codec.Reader) bool  { return len(r.Ints()) == 0 }
func zeroTexts(r *codec.Reader) bool { return len(r.Texts()) == 0 }

// 3.1

func TestIntIsItsGroups(t *testing.T) {
	for n, want := range map[int]string{
		0: "\x00", -1: "\x01", 1: "\x02", -2: "\x03", 63: "\x7e", -64: "\x7f", 64: "\x80\x01", -65: "\x81\x01",
		8191: "\xfe\x7f", 8192: "\x80\x80\x01",
		math.MaxInt: "\xfe\xff\xff\xff\xff\xff\xff\xff\xff\x01",
		math.MinInt: "\xff\xff\xff\xff\xff\xff\xff\xff\xff\x01",
	} {
		written(t, most, func(w *codec.Writer) { w.Int(n) }, want, api.OK)
	}
	for _, n := range ints() {
		s := plainInt(n)
		written(t, most, func(w *codec.Writer) { w.Int(n) }, s, api.OK)
		r := codec.NewReader(s)
		if got := r.Int(); got != n || r.Left() != 0 || r.Done() != api.OK {
			t.Errorf("Int of %q: %d, want %d; %d are left, Done: %d", s, got, n, r.Left(), r.Done())
		}
	}
}

func TestByteIsItself(t *testing.T) {
	for n := range 256 {
		s := string([]byte{byte(n)})
		written(t, 1, func(w *codec.Writer) { w.Byte(n) }, s, api.OK)
		r := codec.NewReader(s)
		if got := r.Byte(); got != n || r.Done() != api.OK {
			t.Errorf("Byte of %q: %d, Done: %d", s, got, r.Done())
		}
	}
}

func TestTextIsItsLengthAndItsBytes(t *testing.T) {
	l := lot(1)
	for _, n := range []int{0, 1, 2, 63, 64, 65, 8191, 8192, most - 3} {
		s := l.text(n)
		written(t, most, func(w *codec.Writer) { w.Text(s) }, plainText(s), api.OK)
		r := codec.NewReader(plainText(s))
		if got := r.Text(); got != s || r.Done() != api.OK {
			t.Errorf("Text of %d bytes: %d bytes, Done: %d", n, len(got), r.Done())
		}
	}
}

func TestIntsAreTheirNumberAndEach(t *testing.T) {
	l := lot(2)
	for _, n := range []int{0, 1, 2, 63, 64, 65, 3000} {
		all := l.ints(n)
		written(t, most, func(w *codec.Writer) { w.Ints(all) }, plainInts(all), api.OK)
		r := codec.NewReader(plainInts(all))
		if got := r.Ints(); !slices.Equal(got, all) || r.Done() != api.OK {
			t.Errorf("Ints of %d: %d, Done: %d", n, len(got), r.Done())
		}
	}
	zeros := make([]int, most-3)
	written(t, most, func(w *codec.Writer) { w.Ints(zeros) }, plainInts(zeros), api.OK)
	written(t, most, func(w *codec.Writer) { w.Ints([]int{}) }, "\x00", api.OK)
}

func TestTextsAreTheirNumberAndEach(t *testing.T) {
	l := lot(3)
	for _, n := range []int{0, 1, 2, 63, 64, 65, 3000} {
		all := l.texts(n)
		written(t, most, func(w *codec.Writer) { w.Texts(all) }, plainTexts(all), api.OK)
		r := codec.NewReader(plainTexts(all))
		if got := r.Texts(); !slices.Equal(got, all) || r.Done() != api.OK {
			t.Errorf("Texts of %d: %d, Done: %d", n, len(got), r.Done())
		}
	}
	written(t, most, func(w *codec.Writer) { w.Texts([]string{}) }, "\x00", api.OK)
	written(t, most, func(w *codec.Writer) { w.Texts([]string{"", "a"}) }, "\x04\x00\x02a", api.OK)
}

// 3.2

func TestWriterTakesAtMostSoMany(t *testing.T) {
	for asked, got := range map[int]int{
		math.MinInt: 0, -1: 0, 0: 0, 1: 1, 2: 2, 100: 100,
		most - 1: most - 1, most: most, most + 1: most, math.MaxInt: most,
	} {
		fill := strings.Repeat("\x07", got)
		bytes := func(n int) func(*codec.Writer) {
			return func(w *codec.Writer) {
				for range n {
					w.Byte(7)
				}
			}
		}
		written(t, asked, bytes(got), fill, api.OK)
		written(t, asked, bytes(got+1), "", api.ErrSize)
	}
}

func TestEachCallStopsAtTheSize(t *testing.T) {
	calls := []struct {
		name string
		do   func(*codec.Writer)
		want string
	}{
		{"Int", func(w *codec.Writer) { w.Int(8192) }, plainInt(8192)},
		{"Byte", func(w *codec.Writer) { w.Byte(0) }, "\x00"},
		{"Text", func(w *codec.Writer) { w.Text("abc") }, plainText("abc")},
		{"empty Text", func(w *codec.Writer) { w.Text("") }, "\x00"},
		{"Ints", func(w *codec.Writer) { w.Ints([]int{1, 64, -1}) }, plainInts([]int{1, 64, -1})},
		{"empty Ints", func(w *codec.Writer) { w.Ints(nil) }, "\x00"},
		{"Texts", func(w *codec.Writer) { w.Texts([]string{"a", "", "bc"}) }, plainTexts([]string{"a", "", "bc"})},
		{"empty Texts", func(w *codec.Writer) { w.Texts(nil) }, "\x00"},
	}
	for _, c := range calls {
		for size := range len(c.want) + 3 {
			want, err := "xy"+c.want, api.OK
			if size < len(c.want) {
				want, err = "", api.ErrSize
			}
			t.Run(c.name, func(t *testing.T) {
				written(t, size+2, func(w *codec.Writer) {
					w.Byte('x')
					w.Byte('y')
					c.do(w)
				}, want, err)
			})
		}
	}
}

func TestWriterRefusesWhatIsFarTooMuch(t *testing.T) {
	written(t, most, func(w *codec.Writer) { w.Text(strings.Repeat("a", most)) }, "", api.ErrSize)
	written(t, most, func(w *codec.Writer) { w.Text(strings.Repeat("a", most*20)) }, "", api.ErrSize)
	written(t, most, func(w *codec.Writer) { w.Ints(make([]int, most-2)) }, "", api.ErrSize)
	written(t, most, func(w *codec.Writer) { w.Ints(make([]int, most*20)) }, "", api.ErrSize)
	written(t, most, func(w *codec.Writer) { w.Texts(make([]string, most*20)) }, "", api.ErrSize)
}

func TestWriterRefusesNoByte(t *testing.T) {
	for _, n := range []int{-1, 256, 257, 511, -256, math.MinInt, math.MaxInt} {
		written(t, most, func(w *codec.Writer) { w.Byte(n) }, "", api.ErrArg)
		// The least number of the two that apply.
		written(t, 0, func(w *codec.Writer) { w.Byte(n) }, "", api.ErrArg)
	}
}

func TestWritersFirstErrorStays(t *testing.T) {
	rest := func(w *codec.Writer) {
		w.Int(1)
		w.Byte(2)
		w.Text("a")
		w.Ints([]int{3})
		w.Texts([]string{"b"})
		w.Ints(nil)
		w.Texts(nil)
		w.Text("")
	}
	written(t, most, func(w *codec.Writer) { w.Int(5); w.Byte(256); rest(w) }, "", api.ErrArg)
	written(t, 50, func(w *codec.Writer) { w.Int(5); w.Text(strings.Repeat("a", 50)); rest(w) }, "", api.ErrSize)
	written(t, 50, func(w *codec.Writer) { w.Ints(make([]int, 50)); rest(w); w.Byte(-1) }, "", api.ErrSize)
	written(t, 50, func(w *codec.Writer) { w.Byte(-1); w.Texts(make([]string, 50)); rest(w) }, "", api.ErrArg)
	written(t, 2, func(w *codec.Writer) { w.Int(8192); w.Byte(1) }, "", api.ErrSize)
}

func TestWriterGoesOnBehindDone(t *testing.T) {
	w := codec.NewWriter(3)
	if s, e := w.Done(); s != "" || e != api.OK {
		t.Errorf("nothing is laid: %q, %d", s, e)
	}
	w.Text("ab")
	a, ea := w.Done()
	b, eb := w.Done()
	if a != "\x04ab" || b != a || ea != api.OK || eb != api.OK {
		t.Errorf("Done: %q, %d, then %q, %d", a, ea, b, eb)
	}
	if unsafe.StringData(a) == unsafe.StringData(b) {
		t.Error("two answers share memory")
	}
	w.Byte(1)
	if s, e := w.Done(); s != "" || e != api.ErrSize || a != "\x04ab" {
		t.Errorf("behind a fourth byte: %q, %d; the answer ahead is %q", s, e, a)
	}
}

func TestWriterKeepsNothingOfWhatIsHandedIn(t *testing.T) {
	numbers := []int{1, 2, 3, 4}
	names := []string{"a", "b", "c", "d"}
	w := codec.NewWriter(most)
	w.Ints(numbers[:2])
	w.Texts(names[:2])
	if !slices.Equal(numbers, []int{1, 2, 3, 4}) || !slices.Equal(names, []string{"a", "b", "c", "d"}) {
		t.Error("what is handed in is changed")
	}
	numbers[0], names[0] = 9, "z"
	if s, _ := w.Done(); s != "\x04\x02\x04\x04\x02a\x02b" {
		t.Errorf("Done: %q", s)
	}
}

func TestNilWriter(t *testing.T) {
	var w *codec.Writer
	w.Int(1)
	w.Byte(1)
	w.Byte(-1)
	w.Text("a")
	w.Ints([]int{1})
	w.Texts([]string{"a"})
	if s, e := w.Done(); s != "" || e != api.ErrArg {
		t.Errorf("Done: %q, %d", s, e)
	}
}

// 3.3

func TestReaderReadsOneBehindTheOther(t *testing.T) {
	s := plainInt(-70) + "\xff" + plainText("ab") + plainInts([]int{1, -64, 9999}) + plainTexts([]string{"", "x"}) + "\x05"
	r := codec.NewReader(s)
	left := len(s)
	took := func(n int) {
		t.Helper()
		left -= n
		if r.Left() != left {
			t.Errorf("Left: %d, want %d", r.Left(), left)
		}
	}
	took(0)
	if n := r.Int(); n != -70 {
		t.Errorf("Int: %d", n)
	}
	took(2)
	if n := r.Byte(); n != 255 {
		t.Errorf("Byte: %d", n)
	}
	took(1)
	if s := r.Text(); s != "ab" {
		t.Errorf("Text: %q", s)
	}
	took(3)
	if l := r.Ints(); !slices.Equal(l, []int{1, -64, 9999}) {
		t.Errorf("Ints: %d", l)
	}
	took(6)
	if l := r.Texts(); !slices.Equal(l, []string{"", "x"}) {
		t.Errorf("Texts: %q", l)
	}
	took(4)
	if e := r.Done(); e != api.ErrSyntax {
		t.Errorf("Done with one byte left: %d", e)
	}
	// Done tells, and changes nothing.
	took(0)
	if n := r.Byte(); n != 5 || r.Done() != api.OK || r.Done() != api.OK {
		t.Errorf("Byte: %d, Done: %d", n, r.Done())
	}
}

func TestReaderOfNothing(t *testing.T) {
	r := codec.NewReader("")
	if r.Left() != 0 || r.Done() != api.OK {
		t.Errorf("Left: %d, Done: %d", r.Left(), r.Done())
	}
	for _, read := range []func(*codec.Reader) bool{zeroInt, zeroByte, zeroText, zeroInts, zeroTexts} {
		refused(t, "", read)
	}
}

func TestReaderRefusesAnIntThatMayNotBe(t *testing.T) {
	ff := func(n int) string { return strings.Repeat("\xff", n) }
	wrong := []string{
		"\x80", "\x81", "\xff\xff", ff(9), ff(10), ff(11), // the bytes end
		"\x80\x00", "\x81\x00", "\xff\x80\x00", ff(8) + "\x00", ff(9) + "\x00", // more groups than it must
		ff(9) + "\x02", ff(9) + "\x03", ff(9) + "\x7f", ff(9) + "\x80", ff(9) + "\x81\x00", ff(10) + "\x01", // more than 64 bits
	}
	for _, s := range wrong {
		refused(t, s, zeroInt)
		refused(t, s, zeroText)
		refused(t, s, zeroInts)
		refused(t, s, zeroTexts)
		refused(t, "\x02"+s, zeroInts)
		refused(t, "\x04\x08"+s, zeroInts)
		refused(t, "\x02"+s, zeroTexts)
	}
	// What follows doesn't mend it.
	for _, s := range wrong[6:] {
		refused(t, s+"\x00\x00\x00\x00", zeroInt)
		refused(t, s+"\x00\x00\x00\x00", zeroText)
		refused(t, "\x02"+s+"\x00\x00\x00\x00", zeroInts)
		refused(t, "\x02"+s+"\x00\x00\x00\x00", zeroTexts)
	}
}

func TestReaderRefusesALengthThatMayNotBe(t *testing.T) {
	for _, n := range []int{-1, -2, 4, 5, 64, most, math.MaxInt, math.MinInt} {
		refused(t, plainInt(n)+"abc", zeroText)
		refused(t, "\x02"+plainInt(n)+"abc", func(r *codec.Reader) bool { return r.Int() == 1 && r.Text() == "" })
		refused(t, "\x02"+plainInt(n)+"abc", zeroTexts)
		refused(t, "\x04\x02a"+plainInt(n)+"abc", zeroTexts)
	}
	refused(t, "\x02", zeroText)
}

func TestReaderRefusesACountThatMayNotBe(t *testing.T) {
	for _, n := range []int{-1, -2, 4, 5, 64, most, math.MaxInt, math.MinInt} {
		refused(t, plainInt(n)+"\x00\x00\x00", zeroInts)
		refused(t, plainInt(n)+"\x00\x00\x00", zeroTexts)
	}
	refused(t, "\x02", zeroInts)
	refused(t, "\x02", zeroTexts)
	refused(t, "\x04\x80\x01", zeroInts) // as many bytes as ints, but the first one takes both
	refused(t, "\x04\x02a", zeroTexts)
	for n := range 4 {
		s := plainInt(n) + "\x00\x00\x00"
		if r := codec.NewReader(s); len(r.Ints()) != n || r.Left() != 3-n {
			t.Errorf("Ints of %q: %d are left", s, r.Left())
		}
		if r := codec.NewReader(s); len(r.Texts()) != n || r.Left() != 3-n {
			t.Errorf("Texts of %q: %d are left", s, r.Left())
		}
	}
}

func TestReadersFirstErrorStays(t *testing.T) {
	r := codec.NewReader("\x0e\xff\xffabc\x00\x02\x02\x02")
	if n := r.Int(); n != 7 {
		t.Errorf("Int: %d", n)
	}
	if s := r.Text(); s != "" {
		t.Errorf("Text: %q", s)
	}
	for range 3 {
		allZero(t, r)
		if e := r.Done(); e != api.ErrSyntax {
			t.Errorf("Done: %d", e)
		}
	}
}

func TestReaderHandsOutNewMemory(t *testing.T) {
	s := plainText("abcdef") + plainTexts([]string{"ghijkl", "mnopqr"})
	begin, end := address(s), address(s)+uintptr(len(s))
	r := codec.NewReader(s)
	for _, got := range append([]string{r.Text()}, r.Texts()...) {
		if at := address(got); begin <= at && at < end {
			t.Errorf("%q shares memory with what was handed in", got)
		}
	}
	// Pieces of one text would stand as far from each other as in it.
	long := strings.Repeat("x", 40)
	r = codec.NewReader(plainText(long) + plainText(long))
	first, second := r.Text(), r.Text()
	if address(second) == address(first)+uintptr(len(plainText(long))) {
		t.Error("two answers share memory")
	}
	a, b := codec.NewReader("\x04\x02\x04"), codec.NewReader("\x04\x02\x04")
	one, two := a.Ints(), b.Ints()
	one[0] = 9
	if two[0] != 1 {
		t.Error("two answers share memory")
	}
}

func address(s string) uintptr { return uintptr(unsafe.Pointer(unsafe.StringData(s))) }

func TestReaderKeepsNothingOfWhatIsHandedIn(t *testing.T) {
	b := []byte("\x04ab")
	r := codec.NewReader(unsafe.String(&b[0], len(b)))
	b[1] = 'z'
	if s := r.Text(); s != "ab" {
		t.Errorf("Text: %q", s)
	}
}

func TestNilReader(t *testing.T) {
	var r *codec.Reader
	allZero(t, r)
	if e := r.Done(); e != api.ErrArg {
		t.Errorf("Done: %d", e)
	}
}

// step is one thing that is laid: which call, and what.
type step struct {
	kind    int
	n       int
	s       string
	numbers []int
	names   []string
}

func (l *lot) step() step {
	return step{l.below(5), l.int(), l.text(l.below(200)), l.ints(l.below(80)), l.texts(l.below(80))}
}

func (p step) lay(w *codec.Writer) string {
	switch p.kind {
	case 0:
		w.Int(p.n)
		return plainInt(p.n)
	case 1:
		w.Byte(p.n & 255)
		return string([]byte{byte(p.n)})
	case 2:
		w.Text(p.s)
		return plainText(p.s)
	case 3:
		w.Ints(p.numbers)
		return plainInts(p.numbers)
	}
	w.Texts(p.names)
	return plainTexts(p.names)
}

func (p step) isNext(r *codec.Reader) bool {
	switch p.kind {
	case 0:
		return r.Int() == p.n
	case 1:
		return r.Byte() == p.n&255
	case 2:
		return r.Text() == p.s
	case 3:
		return slices.Equal(r.Ints(), p.numbers)
	}
	return slices.Equal(r.Texts(), p.names)
}

func TestWhatIsLaidIsRead(t *testing.T) {
	l := lot(4)
	for range 300 {
		w := codec.NewWriter(most)
		var steps []step
		want := ""
		for range l.below(12) {
			p := l.step()
			steps = append(steps, p)
			want += p.lay(w)
		}
		s, e := w.Done()
		if s != want || e != api.OK {
			t.Fatalf("Done: %d bytes, %d, want %d bytes", len(s), e, len(want))
		}
		r := codec.NewReader(s)
		for _, p := range steps {
			if !p.isNext(r) {
				t.Fatalf("what was laid by call %d isn't read", p.kind)
			}
		}
		if e := r.Done(); e != api.OK {
			t.Fatalf("the reader's Done: %d", e)
		}
	}
}

// plainReader reads as the chapter's words tell it: an int is what its bytes would be, if written anew.
type plainReader struct {
	left  string
	wrong bool
}

func (p *plainReader) int() int {
	u, i := new(big.Int), 0
	for i < len(p.left) {
		group := big.NewInt(int64(p.left[i] & 127))
		u.Or(u, group.Lsh(group, uint(7*i)))
		i++
		if p.left[i-1] < 128 {
			break
		}
	}
	half := new(big.Int).Rsh(u, 1)
	if u.Bit(0) == 1 {
		half.Not(half)
	}
	if !half.IsInt64() || plainInt(int(half.Int64())) != p.left[:i] {
		p.wrong = true
		return 0
	}
	p.left = p.left[i:]
	return int(half.Int64())
}

func (p *plainReader) count() int {
	n := p.int()
	if p.wrong || n < 0 || n > len(p.left) {
		p.wrong = true
		return 0
	}
	return n
}

func (p *plainReader) text() string {
	n := p.count()
	s := p.left[:n]
	p.left = p.left[n:]
	return s
}

// next is what the call of that kind reads.
func (p *plainReader) next(kind int) step {
	got := step{kind: kind}
	switch kind {
	case 0:
		got.n = p.int()
	case 1:
		if p.wrong = p.left == ""; !p.wrong {
			got.n = int(p.left[0])
			p.left = p.left[1:]
		}
	case 2:
		got.s = p.text()
	case 3:
		for n := p.count(); n > 0 && !p.wrong; n-- {
			got.numbers = append(got.numbers, p.int())
		}
	case 4:
		for n := p.count(); n > 0 && !p.wrong; n-- {
			got.names = append(got.names, p.text())
		}
	}
	if p.wrong {
		p.left = ""
		return step{kind: kind}
	}
	return got
}

// Whatever bytes: they are read or refused, and what is read is written just so.
func TestWhatIsReadIsWrittenJustSo(t *testing.T) {
	l := lot(5)
	var read, not [5]int
	for range 20000 {
		b := []byte(l.text(l.below(14)))
		for i := range b {
			if l.below(3) > 0 {
				b[i] %= 8 // so that lengths and counts are often met
			}
		}
		s := string(b)
		for kind := range 5 {
			p := &plainReader{left: s}
			want := p.next(kind)
			r := codec.NewReader(s)
			if !want.isNext(r) || r.Left() != len(p.left) {
				t.Fatalf("call %d of %q: %d are left, want %d, and %v", kind, s, r.Left(), len(p.left), want)
			}
			if p.wrong {
				not[kind]++
				if e := r.Done(); e != api.ErrSyntax {
					t.Fatalf("call %d of %q: Done: %d", kind, s, e)
				}
				continue
			}
			read[kind]++
			w := codec.NewWriter(most)
			want.lay(w)
			if again, _ := w.Done(); again+p.left != s {
				t.Fatalf("call %d of %q: %q is written", kind, s, again)
			}
		}
	}
	for kind := range 5 {
		if read[kind] < 1000 || not[kind] < 1000 {
			t.Errorf("call %d: %d read, %d refused: too few of them", kind, read[kind], not[kind])
		}
	}
}

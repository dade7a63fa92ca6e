package frames_test

import (
	"encoding/binary"
	"hash/crc32"
	"math"
	"strings"
	"testing"
	"unsafe"

	"hurdle/api"
	"hurdle/frames"
)

const (
	greatestId = 1<<31 - 1
	mostBody   = 4096
)

// lot gives numbers of many values, the same ones each time.
type lot uint64

func (l *lot) below(n int) int {
	*l = *l*6364136223846793005 + 1442695040888963407
	return int(uint64(*l)>>33) % n
}

func many(n int) string { return strings.Repeat("x", n) }

// seal is any text with a good sum.
func seal(s string) string {
	return string(binary.LittleEndian.AppendUint32([]byte(s), crc32.ChecksumIEEE([]byte(s))))
}

// number is n, 0 or more, as chapter 3 lays it.
func number(n int) string {
	return string(binary.AppendUvarint(nil, 2*uint64(n)))
}

// plain are the bytes of m by the chapter's words, whatever m is.
func plain(m api.Message) string {
	heads := string([]byte{byte(m.Kind), byte(m.From), byte(m.To)})
	return seal(heads + number(m.Id) + number(len(m.Body)) + m.Body)
}

func wantEncode(t *testing.T, m api.Message, want string, err api.Errno) {
	t.Helper()
	got, e := frames.Encode(m)
	if got != want || e != err {
		t.Errorf("Encode(%d %d %d %d, a body of %d): %.40q and %d, want %.40q and %d", m.Kind, m.From, m.To, m.Id, len(m.Body), got, e, want, err)
	}
}

func wantDecode(t *testing.T, s string, want api.Message, err api.Errno) {
	t.Helper()
	got, e := frames.Decode(s)
	if got != want || e != err {
		t.Errorf("Decode(%.40q): %.40v and %d, want %.40v and %d", s, got, e, want, err)
	}
}

// good are messages that may be, at the edges and between them.
func good() []api.Message {
	return []api.Message{
		{Kind: 1},
		{Kind: api.KindReply, From: 3, To: 4, Id: 5, Body: "abc"},
		{Kind: 99},
		{Kind: 98, From: 63, To: 0, Id: 1},
		{Kind: 1, From: 0, To: 63, Id: 63},
		{Kind: 1, From: 63, To: 63, Id: 64},
		{Kind: 1, From: 7, To: 7, Id: 8191, Body: "\x00"},
		{Kind: 1, From: 1, To: 2, Id: 8192, Body: "\xff\xfe"},
		{Kind: 2, From: 1, To: 2, Id: 1 << 20, Body: many(63)},
		{Kind: 2, From: 2, To: 1, Id: 1 << 30, Body: many(64)},
		{Kind: 2, From: 2, To: 1, Id: greatestId - 1, Body: many(mostBody - 1)},
		{Kind: 99, From: 63, To: 63, Id: greatestId, Body: many(mostBody)},
	}
}

// wrong are messages that may not be, and why.
func wrong() map[api.Errno][]api.Message {
	return map[api.Errno][]api.Message{
		api.ErrArg: {
			{},
			{Kind: 0, From: 1, To: 1, Id: 1, Body: "a"},
			{Kind: -1},
			{Kind: 100},
			{Kind: 255},
			{Kind: 257},
			{Kind: math.MinInt},
			{Kind: math.MaxInt},
			{Kind: 1, From: -1},
			{Kind: 1, From: 64},
			{Kind: 1, From: 256},
			{Kind: 1, From: math.MinInt},
			{Kind: 1, From: math.MaxInt},
			{Kind: 1, To: -1},
			{Kind: 1, To: 64},
			{Kind: 1, To: 256},
			{Kind: 1, To: math.MinInt},
			{Kind: 1, To: math.MaxInt},
			{Kind: 1, Id: -1},
			{Kind: 1, Id: greatestId + 1},
			{Kind: 1, Id: 1 << 32},
			{Kind: 1, Id: math.MinInt},
			{Kind: 1, Id: math.MaxInt},
			{Body: many(mostBody + 1)},
			{Kind: 100, Body: many(mostBody + 1)},
			{Kind: 1, From: 64, Body: many(mostBody + 1)},
			{Kind: 1, To: -1, Body: many(mostBody + 1)},
			{Kind: 1, Id: -1, Body: many(mostBody + 1)},
		},
		api.ErrSize: {
			{Kind: 1, Body: many(mostBody + 1)},
			{Kind: 99, From: 63, To: 63, Id: greatestId, Body: many(mostBody + 1)},
			{Kind: 1, Body: many(api.MaxBytes)},
			{Kind: 1, Body: many(1 << 20)},
		},
	}
}

func TestCheck(t *testing.T) {
	for _, m := range good() {
		if err := frames.Check(m); err != api.OK {
			t.Errorf("Check(%.60v): %d", m, err)
		}
	}
	for err, l := range wrong() {
		for _, m := range l {
			if got := frames.Check(m); got != err {
				t.Errorf("Check(%.60v): %d, want %d", m, got, err)
			}
		}
	}
}

// Each kind, each node, each length of a body near the greatest one.
func TestCheckAtEachNumber(t *testing.T) {
	for n := -300; n <= 300; n++ {
		for _, c := range []struct {
			m           api.Message
			least, most int
		}{
			{api.Message{Kind: n}, 1, 99},
			{api.Message{Kind: 1, From: n}, 0, 63},
			{api.Message{Kind: 1, To: n}, 0, 63},
		} {
			want := api.OK
			if n < c.least || n > c.most {
				want = api.ErrArg
			}
			if got := frames.Check(c.m); got != want {
				t.Errorf("Check(%v): %d, want %d", c.m, got, want)
			}
		}
	}
	for n := mostBody - 3; n <= mostBody+3; n++ {
		want := api.OK
		if n > mostBody {
			want = api.ErrSize
		}
		if got := frames.Check(api.Message{Kind: 1, Body: many(n)}); got != want {
			t.Errorf("a body of %d: %d, want %d", n, got, want)
		}
	}
}

func TestEncode(t *testing.T) {
	for _, m := range good() {
		wantEncode(t, m, plain(m), api.OK)
	}
}

func TestEncodeByHand(t *testing.T) {
	wantEncode(t, api.Message{Kind: 1}, seal("\x01\x00\x00\x00\x00"), api.OK)
	wantEncode(t, api.Message{Kind: 99, From: 63, To: 1, Id: 300, Body: "ab"}, seal("\x63\x3f\x01\xd8\x04\x04ab"), api.OK)
	wantEncode(t, api.Message{Kind: 2, From: 4, To: 5, Id: greatestId}, seal("\x02\x04\x05\xfe\xff\xff\xff\x0f\x00"), api.OK)
}

func TestEncodeRefuses(t *testing.T) {
	for err, l := range wrong() {
		for _, m := range l {
			wantEncode(t, m, "", err)
		}
	}
}

func TestDecode(t *testing.T) {
	for _, m := range good() {
		wantDecode(t, plain(m), m, api.OK)
	}
}

func TestDecodeOfNoSum(t *testing.T) {
	whole := plain(api.Message{Kind: 1, Body: "abc"})
	for _, c := range []struct {
		s   string
		err api.Errno
	}{
		{"", api.ErrSize},
		{"\x01", api.ErrSize},
		{"abc", api.ErrSize},
		{"\x00\x00\x00", api.ErrSize},
		{"abcd", api.ErrSum},
		{"\x01\x00\x00\x00\x00", api.ErrSum},
		{"\x01\x00\x00\x00\x00\x00\x00\x00\x00", api.ErrSum},
		{whole + "\x00", api.ErrSum},
		{whole[1:], api.ErrSum},
		{many(1 << 20), api.ErrSum},
	} {
		wantDecode(t, c.s, api.Message{}, c.err)
	}
	for n := range len(whole) {
		err := api.ErrSum
		if n < 4 {
			err = api.ErrSize
		}
		wantDecode(t, whole[:n], api.Message{}, err)
	}
}

// What has a good sum and is no message's bytes.
func TestDecodeOfOther(t *testing.T) {
	for _, s := range []string{
		"",
		"\x01",
		"\x01\x00",
		"\x01\x00\x00",
		"\x01\x00\x00\x00",
		"\x00\x00\x00\x00\x00",
		"\x64\x00\x00\x00\x00",
		"\xff\x00\x00\x00\x00",
		"\x01\x40\x00\x00\x00",
		"\x01\xff\x00\x00\x00",
		"\x01\x00\x40\x00\x00",
		"\x01\x00\xff\x00\x00",
		"\x01\x00\x00\x01\x00",                 // Id -1
		"\x01\x00\x00\x80\x80\x80\x80\x10\x00", // Id 2^31
		"\x01\x00\x00\xff\xff\xff\xff\xff\xff\xff\xff\xff\x01\x00", // the least Id
		"\x01\x00\x00\x80\x00\x00",                                 // Id 0 in two groups
		"\x01\x00\x00\x82\x00\x00",                                 // Id 1 in two groups
		"\x01\x00\x00\x80",
		"\x01\x00\x00\x80\x80\x80\x80\x80\x80\x80\x80\x80\x02\x00", // more than 64 bits
		"\x01\x00\x00\x00\x80\x00",                                 // a length in two groups
		"\x01\x00\x00\x00\x01",                                     // a length of -1
		"\x01\x00\x00\x00\x02",
		"\x01\x00\x00\x00\x04a",
		"\x01\x00\x00\x00\x04abc",
		"\x01\x00\x00\x00\x00\x00",
		"\x01\x00\x00\x00\x00" + plain(api.Message{Kind: 1}),
		"\x01\x00\x00\x00" + number(mostBody+1) + many(mostBody+1),
		"\x01\x00\x00\x00" + number(api.MaxBytes) + many(api.MaxBytes),
		"\x00\x00\x00\x00" + number(mostBody+1) + many(mostBody+1),
		"\x01\x00\x00\x00" + number(mostBody) + many(mostBody+1),
	} {
		wantDecode(t, seal(s), api.Message{}, api.ErrSyntax)
	}
}

// The bytes of messages that may not be, where they stand just as those of others would.
func TestDecodeOfRefused(t *testing.T) {
	for _, l := range wrong() {
		for _, m := range l {
			fits := m.Kind >= 0 && m.Kind < 256 && m.From >= 0 && m.From < 256 && m.To >= 0 && m.To < 256 && m.Id >= 0
			if fits {
				wantDecode(t, plain(m), api.Message{}, api.ErrSyntax)
			}
		}
	}
}

func TestEachSpoiltBit(t *testing.T) {
	whole := plain(api.Message{Kind: 7, From: 1, To: 2, Id: 300, Body: "a body"})
	for bit := range 8 * len(whole) {
		b := []byte(whole)
		b[bit/8] ^= 1 << (bit % 8)
		wantDecode(t, string(b), api.Message{}, api.ErrSum)
	}
}

func TestSealedTwice(t *testing.T) {
	m := api.Message{Kind: 1, Body: "ab"}
	wantDecode(t, seal(plain(m)), api.Message{}, api.ErrSyntax)
}

func shares(a, b string) bool {
	from, to := uintptr(unsafe.Pointer(unsafe.StringData(a))), uintptr(unsafe.Pointer(unsafe.StringData(b)))
	return a != "" && b != "" && from < to+uintptr(len(b)) && to < from+uintptr(len(a))
}

func TestAnswersAreNewMemory(t *testing.T) {
	m := api.Message{Kind: 1, Body: strings.Clone("a body")}
	first, _ := frames.Encode(m)
	second, _ := frames.Encode(m)
	if shares(first, second) || shares(first, m.Body) {
		t.Error("the bytes share memory")
	}
	a, _ := frames.Decode(first)
	b, _ := frames.Decode(first)
	if shares(a.Body, b.Body) || shares(a.Body, first) {
		t.Error("the bodies share memory")
	}
}

func someMessage(l *lot) api.Message {
	ids := []int{l.below(64), l.below(1 << 14), l.below(greatestId), greatestId}
	body := strings.Repeat(string([]byte{byte(l.below(256))}), l.below(100)*l.below(41))
	return api.Message{Kind: 1 + l.below(99), From: l.below(64), To: l.below(64), Id: ids[l.below(len(ids))], Body: body}
}

func TestThereAndBack(t *testing.T) {
	l := lot(12)
	for range 2000 {
		m := someMessage(&l)
		s, err := frames.Encode(m)
		if s != plain(m) || err != api.OK {
			t.Fatalf("Encode(%.60v): %.60q and %d", m, s, err)
		}
		wantDecode(t, s, m, api.OK)
		if t.Failed() {
			return
		}
	}
}

// Whatever bytes: they are refused, or they are written just so.
func TestWhatIsReadIsWrittenSo(t *testing.T) {
	l := lot(120)
	read := 0
	for range 200000 {
		b := make([]byte, l.below(10))
		for i := range b {
			b[i] = byte(l.below(256)) >> l.below(9)
		}
		if l.below(2) == 0 && len(b) > 4 {
			b[4] = byte(2 * (len(b) - 5))
		}
		s := seal(string(b))
		m, err := frames.Decode(s)
		if err == api.OK {
			read++
			wantEncode(t, m, s, api.OK)
		} else if err != api.ErrSyntax || m != (api.Message{}) {
			t.Errorf("Decode(%q): %v and %d", s, m, err)
		}
		if t.Failed() {
			return
		}
	}
	if read < 1000 {
		t.Errorf("only %d were read: too few to tell", read)
	}
}

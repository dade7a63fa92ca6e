package members_test

import (
	"encoding/binary"
	"math"
	"testing"
	"unsafe"

	"hurdle/api"
	"hurdle/members"
)

func wantText(t *testing.T, m *members.Members, want string) {
	t.Helper()
	if got := m.Text(); got != want {
		t.Errorf("Text: %q, want %q", got, want)
	}
}

// wantRead reads s, which is a text, and wants it back again.
func wantRead(t *testing.T, s string) *members.Members {
	t.Helper()
	m, err := members.Read(s)
	if m == nil || err != api.OK {
		t.Fatalf("Read(%q): error %d", s, err)
	}
	wantText(t, m, s)
	return m
}

func wantRefused(t *testing.T, s string) {
	t.Helper()
	if m, err := members.Read(s); m != nil || err != api.ErrSyntax {
		t.Errorf("Read(%.80q of %d): %v and %d, want nil and ErrSyntax", s, len(s), m != nil, err)
	}
}

// num is n as chapter 3's int, which is what the library calls a varint.
func num(n int) string {
	return string(binary.AppendVarint(nil, int64(n)))
}

func nums(l []int) string {
	s := binary.AppendVarint(nil, int64(len(l)))
	for _, n := range l {
		s = binary.AppendVarint(s, int64(n))
	}
	return string(s)
}

// one is a byte.
func one(n int) string {
	return string([]byte{byte(n)})
}

// allText is the text of all parts.
func allText(epoch, hole, filled, gone int, servers, spares []int) string {
	return num(epoch) + num(hole) + one(filled) + num(gone) + nums(servers) + nums(spares)
}

func TestText(t *testing.T) {
	m := newGroup(t, []int{1, 2, 3}, []int{9})
	wantText(t, m, "\x02\x01\x00\x01"+"\x06\x02\x04\x06"+"\x02\x12")
	wantFail(t, m, 2, 1, api.OK)
	wantText(t, m, "\x04\x02\x00\x04"+"\x06\x02\x04\x06"+"\x02\x12")
	wantSwap(t, m, 2, 9, api.OK)
	wantText(t, m, "\x06\x02\x01\x04"+"\x06\x02\x12\x06"+"\x00")
	wantAdd(t, m, 63, api.OK)
	wantText(t, m, "\x06\x02\x01\x04"+"\x06\x02\x12\x06"+"\x02\x7e")
	wantDone(t, m, 3, api.OK)
	wantText(t, m, "\x08\x01\x00\x01"+"\x06\x02\x12\x06"+"\x02\x7e")
}

func TestTextOfAllThatMayBe(t *testing.T) {
	servers, spares := upTo(56, 8), upTo(0, 56)
	m := newGroup(t, servers, spares)
	wantText(t, m, allText(1, -1, 0, -1, servers, spares))
	wantFail(t, m, 63, 1, api.OK)
	wantText(t, m, allText(2, 7, 0, 63, servers, spares))
	wantSwap(t, m, 2, 0, api.OK)
	servers[7] = 0
	wantText(t, m, allText(3, 7, 1, 63, servers, spares[1:]))
}

// A text of an epoch of two bytes, which many losses came ahead of.
func TestTextOfALateEpoch(t *testing.T) {
	m := newGroup(t, []int{0, 1}, []int{2})
	for i := range 100 {
		epoch := 1 + 3*i
		wantText(t, m, allText(epoch, -1, 0, -1, m.Servers(), m.Spares()))
		gone := m.Servers()[0]
		wantFail(t, m, gone, epoch, api.OK)
		wantSwap(t, m, epoch+1, m.Spares()[0], api.OK)
		wantText(t, m, allText(epoch+2, 0, 1, gone, m.Servers(), nil))
		wantDone(t, m, epoch+2, api.OK)
		wantAdd(t, m, gone, api.OK)
	}
	wantGroup(t, m, 301, noHole, []int{0, 1}, []int{2})
}

// What is read goes on as what was told.
func TestRead(t *testing.T) {
	m := newGroup(t, []int{1, 2, 3}, []int{9, 8})
	back := wantRead(t, m.Text())
	for _, m := range []*members.Members{m, back} {
		wantGroup(t, m, 1, noHole, []int{1, 2, 3}, []int{9, 8})
		wantDone(t, m, 1, api.ErrState)
		wantFail(t, m, 2, 1, api.OK)
	}
	again := wantRead(t, back.Text())
	for _, m := range []*members.Members{m, back, again} {
		wantGroup(t, m, 2, 1, []int{1, 2, 3}, []int{9, 8})
		wantFail(t, m, 3, 2, api.ErrLost)
		wantDone(t, m, 2, api.ErrState)
		wantAdd(t, m, 2, api.ErrTwice)
		wantSwap(t, m, 2, 9, api.OK)
	}
	last := wantRead(t, again.Text())
	for _, m := range []*members.Members{m, back, again, last} {
		wantGroup(t, m, 3, 1, []int{1, 9, 3}, []int{8})
		wantFail(t, m, 3, 3, api.ErrLost)
		wantFail(t, m, 2, 3, api.ErrNone)
		wantSwap(t, m, 3, 0, api.ErrState)
		wantAdd(t, m, 2, api.ErrTwice)
		wantDone(t, m, 3, api.OK)
		wantAdd(t, m, 2, api.OK)
		wantGroup(t, m, 4, noHole, []int{1, 9, 3}, []int{8, 2})
	}
}

// A text that no calls lead to is one too, if it may be.
func TestReadTakesWhatMayBe(t *testing.T) {
	pair, all := []int{63, 0}, upTo(0, 8)
	for _, epoch := range []int{1, 2, 63, 64, 1 << 31, 1 << 62, math.MaxInt} {
		for _, c := range []struct {
			hole, filled, gone int
			servers, spares    []int
		}{
			{-1, 0, -1, pair, nil},
			{-1, 0, -1, pair, upTo(1, 62)},
			{0, 0, 63, pair, nil},
			{1, 0, 0, pair, upTo(1, 62)},
			{0, 1, 62, pair, upTo(1, 61)},
			{1, 1, 1, pair, nil},
			{-1, 0, -1, all, []int{63}},
			{7, 0, 7, all, nil},
			{7, 1, 63, all, upTo(8, 55)},
			{0, 1, 8, all, upTo(9, 55)},
			{1, 1, 0, upTo(1, 8), nil},
		} {
			m := wantRead(t, allText(epoch, c.hole, c.filled, c.gone, c.servers, c.spares))
			wantGroup(t, m, epoch, c.hole, c.servers, c.spares)
		}
	}
}

func TestReadRefusesEpochs(t *testing.T) {
	servers := []int{1, 2, 3}
	for _, epoch := range []int{0, -1, -2, -64, -65, -1 << 31, math.MinInt + 1, math.MinInt} {
		wantRefused(t, allText(epoch, -1, 0, -1, servers, nil))
		wantRefused(t, allText(epoch, 1, 0, 2, servers, nil))
		wantRefused(t, allText(epoch, 1, 1, 9, servers, nil))
	}
	for _, epoch := range []string{"", "\x82\x00", "\x82\x80\x00", "\xfe\xff\xff\xff\xff\xff\xff\xff\xff\x02", "\xfe\xff\xff\xff\xff\xff\xff\xff\xff\x81\x00"} {
		wantRefused(t, epoch+"\x01\x00\x01"+nums(servers)+nums(nil))
	}
}

func TestReadRefusesHoles(t *testing.T) {
	servers, spares := []int{1, 2, 3}, []int{9}
	// Without a hole there is none filled, and none gone.
	wantRead(t, allText(5, -1, 0, -1, servers, spares))
	for gone := -70; gone < 70; gone++ {
		wantRefused(t, allText(5, -1, 1, gone, servers, spares))
		if gone != -1 {
			wantRefused(t, allText(5, -1, 0, gone, servers, spares))
		}
	}
	// The hole is a place.
	for _, hole := range []int{math.MinInt, -64, -3, -2, 3, 4, 7, 8, 9, 63, 1 << 32, math.MaxInt} {
		for _, gone := range []int{-1, 0, 1, 2, 3, 4, 9, 63} {
			wantRefused(t, allText(5, hole, 0, gone, servers, spares))
			wantRefused(t, allText(5, hole, 1, gone, servers, spares))
		}
	}
	// It is filled, or it is not.
	for filled := 2; filled < 256; filled++ {
		wantRefused(t, allText(5, -1, filled, -1, servers, spares))
		wantRefused(t, allText(5, 1, filled, 2, servers, spares))
		wantRefused(t, allText(5, 1, filled, 20, servers, spares))
	}
}

// Till the hole is filled the gone one is the server there, and then no server or spare.
func TestReadRefusesGoneOnes(t *testing.T) {
	servers, spares := []int{1, 2, 0}, []int{9, 63}
	taken := 0
	for hole, server := range servers {
		for _, gone := range append(notIds(), upTo(0, ids)...) {
			open, filled := allText(5, hole, 0, gone, servers, spares), allText(5, hole, 1, gone, servers, spares)
			if gone == server {
				wantGroup(t, wantRead(t, open), 5, hole, servers, spares)
			} else {
				wantRefused(t, open)
			}
			if gone >= 3 && gone <= 62 && gone != 9 {
				wantGroup(t, wantRead(t, filled), 5, hole, servers, spares)
				taken++
			} else {
				wantRefused(t, filled)
			}
		}
	}
	if taken != 3*59 {
		t.Errorf("%d were taken", taken)
	}
	// All are a server or a spare: none is left that may be gone.
	full := upTo(2, 62)
	wantRead(t, allText(5, 1, 0, 1, []int{0, 1}, full))
	for gone := -1; gone <= ids; gone++ {
		wantRefused(t, allText(5, 1, 1, gone, []int{0, 1}, full))
	}
}

func TestReadRefusesServersAndSpares(t *testing.T) {
	for n := range 12 {
		s := allText(1, -1, 0, -1, upTo(0, n), []int{20})
		if n >= 2 && n <= mostServers {
			wantRead(t, s)
		} else {
			wantRefused(t, s)
		}
	}
	for _, id := range append(notIds(), 1, 3, 9, 8) {
		wantRefused(t, allText(1, -1, 0, -1, []int{1, id, 3}, []int{9, 8}))
		wantRefused(t, allText(1, -1, 0, -1, []int{1, 2, 3}, []int{9, 8, id}))
		wantRefused(t, allText(1, -1, 0, -1, []int{1, 2, 3}, []int{id, 9, 8}))
		wantRefused(t, allText(2, 1, 0, id, []int{1, id, 3}, []int{9, 8}))
	}
	wantRefused(t, allText(1, -1, 0, -1, []int{0, 1}, append(upTo(2, 62), 64)))
	wantRefused(t, allText(1, -1, 0, -1, []int{0, 1}, append(upTo(2, 62), 2)))
	wantRefused(t, allText(1, -1, 0, -1, []int{0, 1}, make([]int, 100000)))
	wantRefused(t, allText(1, -1, 0, -1, make([]int, 100000), nil))
	head := "\x02\x01\x00\x01"
	wantRead(t, head+"\x04\x02\x04"+"\x02\x06")
	for _, s := range []string{
		"\x04\x02\x04", "\x04\x02", "\x04", "",
		"\x04\x02\x04\x04\x06", "\x06\x02\x04\x02\x06", "\x02\x02\x04\x02\x06",
		"\x03\x02\x04\x02\x06", "\x04\x02\x04\x01", "\x04\x02\x04\x00\x06",
		"\x84\x00\x02\x04\x02\x06", "\x04\x82\x00\x04\x02\x06", "\x04\x02\x04\x82\x00\x06", "\x04\x02\x04\x02\x86\x00",
		num(math.MaxInt) + "\x02\x04\x02\x06", "\x04\x02\x04" + num(math.MaxInt) + "\x06", num(math.MinInt) + "\x02\x04\x02\x06",
	} {
		wantRefused(t, head+s)
	}
}

// someTexts are of each kind one.
func someTexts() []string {
	return []string{
		allText(1, -1, 0, -1, []int{1, 2}, nil),
		allText(200, -1, 0, -1, []int{5, 63, 0}, []int{9, 20}),
		allText(2, 1, 0, 2, []int{1, 2, 3}, []int{9, 0, 63}),
		allText(3, 0, 1, 4, []int{63, 2, 1, 0}, []int{5}),
		allText(math.MaxInt, 7, 1, 8, upTo(0, 8), nil),
	}
}

// No beginning of a text is one, nor a text with more behind it.
func TestReadRefusesPieces(t *testing.T) {
	for _, s := range someTexts() {
		wantRead(t, s)
		for n := range len(s) {
			wantRefused(t, s[:n])
		}
		for n := range 256 {
			wantRefused(t, s+one(n))
		}
	}
}

// There is no int behind the last one: an epoch that is the last one stays, and all else is done.
func TestTheLastEpoch(t *testing.T) {
	const last = math.MaxInt
	m := wantRead(t, allText(last-2, -1, 0, -1, []int{1, 2}, []int{3, 4}))
	wantFail(t, m, 1, last-2, api.OK)
	wantSwap(t, m, last-1, 3, api.OK)
	wantGroup(t, m, last, 0, []int{3, 2}, []int{4})
	wantDone(t, m, last-1, api.ErrEpoch)
	wantDone(t, m, last, api.OK)
	wantFail(t, m, 2, last, api.OK)
	wantGroup(t, m, last, 1, []int{3, 2}, []int{4})
	wantSwap(t, m, last, 4, api.OK)
	wantGroup(t, m, last, 1, []int{3, 4}, nil)
	wantGroup(t, wantRead(t, m.Text()), last, 1, []int{3, 4}, nil)
}

// Texts that are equal do not tell whether they share memory; where they stand does.
func TestTextsAreNewMemory(t *testing.T) {
	m := failed(t)
	a, b := m.Text(), m.Text()
	if a != b || unsafe.StringData(a) == unsafe.StringData(b) {
		t.Error("the texts share memory")
	}
}

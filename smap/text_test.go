package smap_test

import (
	"encoding/binary"
	"math"
	"testing"
	"unsafe"

	"hurdle/api"
	"hurdle/smap"
)

func wantText(t *testing.T, m *smap.Map, want string) {
	t.Helper()
	if got := m.Text(); got != want {
		t.Errorf("Text: %.200q of %d, want %.200q of %d", got, len(got), want, len(want))
	}
}

// wantRead reads s, which is a text, and wants it back again.
func wantRead(t *testing.T, s string) *smap.Map {
	t.Helper()
	m, err := smap.Read(s)
	if m == nil || err != api.OK {
		t.Fatalf("Read(%.200q of %d): error %d", s, len(s), err)
	}
	wantText(t, m, s)
	return m
}

func wantRefused(t *testing.T, s string) {
	t.Helper()
	if m, err := smap.Read(s); m != nil || err != api.ErrSyntax {
		t.Errorf("Read(%.200q of %d): %v and %d, want nil and ErrSyntax", s, len(s), m != nil, err)
	}
}

// num is n as chapter 3's int, which is what the library calls a varint.
func num(n int) string {
	return string(binary.AppendVarint(nil, int64(n)))
}

func nums(l []int) string {
	s := binary.AppendVarint(nil, int64(len(l)))
	for _, n := range l {
		s = binary.AppendVarint(s, int64(n))
	}
	return string(s)
}

// one is a byte.
func one(n int) string {
	return string([]byte{byte(n)})
}

func stripeText(s api.Stripe) string {
	return one(s.State) + num(s.Owner) + num(s.Epoch) + num(s.Length) + nums(s.Servers)
}

func allText(all ...api.Stripe) string {
	b := []byte(num(len(all)))
	for _, s := range all {
		b = append(b, stripeText(s)...)
	}
	return string(b)
}

// rowText is the text of so many of each state in their order.
func rowText(counts ...int) string {
	all := []api.Stripe{}
	for i, count := range counts {
		for range count {
			all = append(all, api.Stripe{State: begun + i%3, Epoch: 1, Servers: []int{0, 1}})
		}
	}
	return allText(all...)
}

func TestText(t *testing.T) {
	m := smap.New()
	wantText(t, m, "\x00")
	wantBegin(t, m, 1, 1, 10, []int{5, 6, 7}, 0, api.OK)
	wantText(t, m, "\x02"+"\x01\x02\x02\x14\x06\x0a\x0c\x0e")
	wantCommit(t, m, 0, 1, api.OK)
	wantText(t, m, "\x02"+"\x02\x02\x02\x14\x06\x0a\x0c\x0e")
	wantBegin(t, m, 15, 64, 65536, []int{63, 0}, 1, api.OK)
	wantText(t, m, "\x04"+"\x02\x02\x02\x14\x06\x0a\x0c\x0e"+"\x01\x1e\x80\x01\x80\x80\x08\x04\x7e\x00")
	wantMove(t, m, 0, 1, 63, api.OK)
	wantFree(t, m, 0, api.OK)
	wantText(t, m, "\x04"+"\x03\x02\x02\x14\x06\x0a\x7e\x0e"+"\x01\x1e\x80\x01\x80\x80\x08\x04\x7e\x00")
}

// longest is a stripe of the longest text.
func longest(state int) api.Stripe {
	return api.Stripe{State: state, Owner: 15, Epoch: math.MaxInt, Length: mostBytes, Servers: upTo(56, 8)}
}

// All that may be known makes a text that is longer than a codec's writer takes.
func TestTextOfAllThatMayBe(t *testing.T) {
	m := smap.New()
	var all []api.Stripe
	for id := range mostKnown {
		s := longest(begun)
		s.Id = id
		wantBegin(t, m, s.Owner, s.Epoch, s.Length, s.Servers, id, api.OK)
		if id < mostKnown-mostLive {
			wantFree(t, m, id, api.OK)
			s.State = freed
		}
		all = append(all, s)
	}
	wantAll(t, m, all)
	if n := len(m.Text()); n <= api.MaxBytes {
		t.Errorf("a text of %d bytes, which is not long", n)
	}
	back := wantRead(t, m.Text())
	wantAll(t, back, all)
	wantBegin(t, back, 0, 1, 0, []int{0, 1}, 0, api.ErrFull)
}

// What is read goes on as what was told.
func TestRead(t *testing.T) {
	m, all := three(t)
	back := wantRead(t, m.Text())
	for _, m := range []*smap.Map{m, back} {
		wantAll(t, m, all)
		wantCommit(t, m, 0, 2, api.ErrState)
		wantCommit(t, m, 1, 0, api.ErrState)
		wantFree(t, m, 2, api.ErrState)
		wantMove(t, m, 1, 0, 0, api.ErrTwice)
		wantMove(t, m, 1, 0, 7, api.OK)
		wantCommit(t, m, 0, 3, api.OK)
		wantBegin(t, m, 5, 9, 1, []int{7, 8}, 3, api.OK)
		wantOn(t, m, 7, []int{0, 1, 3})
	}
	again := wantRead(t, back.Text())
	for _, m := range []*smap.Map{m, back, again} {
		wantDrop(t, m, 3, nil)
		wantDrop(t, m, 5, []int{3})
		wantFree(t, m, 0, api.OK)
		wantList(t, m, freed, []int{0, 2, 3})
		wantList(t, m, committed, []int{1})
		wantNoStripe(t, m, 4)
	}
	wantText(t, again, m.Text())
	wantAll(t, wantRead(t, "\x00"), nil)
}

// What is read has as much room as what was told.
func TestReadOfAFullOne(t *testing.T) {
	m := wantRead(t, filled(t, mostLive).Text())
	wantBegin(t, m, 1, 1, 1, []int{0, 1}, 0, api.ErrFull)
	wantFree(t, m, 7, api.OK)
	m = wantRead(t, m.Text())
	wantBegin(t, m, 1, 1, 1, []int{0, 1}, 256, api.OK)
	wantBegin(t, m, 1, 1, 1, []int{0, 1}, 0, api.ErrFull)
	m = wantRead(t, m.Text())
	wantBegin(t, m, 1, 1, 1, []int{0, 1}, 0, api.ErrFull)
	wantDrop(t, m, 1, append(upTo(0, 7), upTo(8, 249)...))
	m = wantRead(t, m.Text())
	for id := range mostLive {
		wantBegin(t, m, 1, 1, 1, []int{0, 1}, 257+id, api.OK)
	}
	wantBegin(t, m, 1, 1, 1, []int{0, 1}, 0, api.ErrFull)
}

func TestReadTakesWhatMayBe(t *testing.T) {
	for state := begun; state <= freed; state++ {
		for owner := range owners {
			for _, epoch := range []int{1, 2, 63, 64, 1 << 31, 1 << 62, math.MaxInt} {
				for _, length := range []int{0, 1, 63, 64, 8192, mostBytes - 1, mostBytes} {
					s := api.Stripe{State: state, Owner: owner, Epoch: epoch, Length: length, Servers: []int{63, owner}}
					wantGet(t, wantRead(t, allText(s)), s)
				}
			}
		}
		for n := 2; n <= 8; n++ {
			for _, first := range []int{0, 17, 64 - n} {
				s := api.Stripe{State: state, Epoch: 1, Servers: upTo(first, n)}
				wantAll(t, wantRead(t, allText(s)), []api.Stripe{s})
			}
		}
	}
}

func TestReadRefusesNumbers(t *testing.T) {
	good := api.Stripe{State: committed, Owner: 5, Epoch: 3, Length: 100, Servers: []int{1, 2, 3}}
	// ones has what is changed first, in the midst, and last.
	ones := func(change func(s *api.Stripe)) {
		t.Helper()
		s := good
		change(&s)
		wantRefused(t, allText(s))
		wantRefused(t, allText(s, good))
		wantRefused(t, allText(good, s, good))
		wantRefused(t, allText(good, good, s))
	}
	for state := range 256 {
		if state < begun || state > freed {
			ones(func(s *api.Stripe) { s.State = state })
		}
	}
	for _, owner := range notOwners() {
		ones(func(s *api.Stripe) { s.Owner = owner })
	}
	for _, epoch := range []int{math.MinInt, math.MinInt + 1, -1 << 31, -65, -64, -2, -1, 0} {
		ones(func(s *api.Stripe) { s.Epoch = epoch })
	}
	for _, length := range []int{math.MinInt, -mostBytes, -2, -1, mostBytes + 1, 2 * mostBytes, 1 << 32, math.MaxInt} {
		ones(func(s *api.Stripe) { s.Length = length })
	}
	for n := range 70 {
		if n < 2 || n > 8 {
			ones(func(s *api.Stripe) { s.Servers = upTo(0, n) })
		}
	}
	for place := range 3 {
		for _, server := range append(notServers(), good.Servers[(place+1)%3]) {
			ones(func(s *api.Stripe) {
				s.Servers = upTo(1, 3)
				s.Servers[place] = server
			})
		}
	}
	wantRead(t, allText(good, good, good))
}

func TestReadRefusesCounts(t *testing.T) {
	good := api.Stripe{State: begun, Epoch: 1, Servers: []int{1, 2}}
	rest := stripeText(good)
	wantRead(t, num(1)+rest)
	wantRead(t, num(2)+rest+rest)
	for _, n := range []int{math.MinInt, -1 << 32, -4097, -2, -1, 0, 2, 3, 256, 257, 4095, 4096, 4097, 1 << 32, 1 + 1<<32, math.MaxInt} {
		wantRefused(t, num(n)+rest)
	}
	for _, n := range []int{math.MinInt, -1, 1, 4096, 4097, math.MaxInt} {
		wantRefused(t, num(n))
	}
	// A number is laid in its least bytes.
	for _, s := range []string{
		"", "\x80\x00", "\x80", "\x82\x00" + rest, "\x82\x80\x00" + rest, "\x02" + "\x01\x80\x00\x02\x00\x04\x02\x04",
		"\x02" + "\x01\x00\x82\x00\x00\x04\x02\x04", "\x02" + "\x01\x00\x02\x80\x00\x04\x02\x04", "\x02" + "\x01\x00\x02\x00\x84\x00\x02\x04",
		"\x02" + "\x01\x00\x02\x00\x04\x82\x00\x04", "\x02" + "\x01\x00\x02\x00\x04\x02\x84\x00", "\x02" + "\x01\x00\x02\x00\x05\x02\x04",
		"\x02" + "\x01\x00\xfe\xff\xff\xff\xff\xff\xff\xff\xff\x02\x00\x04\x02\x04", "\x02" + "\x01\x00\x02\x00" + num(math.MaxInt) + "\x02\x04",
		"\x02" + "\x01\x00\x02\x00" + num(math.MinInt) + "\x02\x04",
	} {
		wantRefused(t, s)
	}
	wantRead(t, "\x02"+"\x01\x00\x02\x00\x04\x02\x04")
}

// No text has more than may be, all of them, or those that are not freed.
func TestReadRefusesTooMany(t *testing.T) {
	for _, counts := range [][]int{
		{256}, {0, 256}, {0, 0, 256}, {0, 0, 257}, {0, 0, 4096}, {128, 128}, {1, 255}, {255, 1}, {100, 56, 3000, 100},
		{256, 0, 3840}, {0, 256, 3840}, {0, 0, 3840, 128, 128}, {1, 0, 4095}, {255, 0, 3841},
	} {
		wantRead(t, rowText(counts...))
	}
	for _, counts := range [][]int{
		{257}, {0, 257}, {0, 0, 4097}, {129, 128}, {1, 256}, {256, 1}, {100, 57, 3000, 100},
		{257, 0, 3839}, {0, 257, 3839}, {0, 0, 3839, 128, 129}, {1, 0, 4096}, {256, 0, 3841}, {4096}, {0, 0, 10000},
	} {
		wantRefused(t, rowText(counts...))
	}
}

// someTexts are of unlike kinds.
func someTexts() []string {
	return []string{
		allText(),
		allText(longest(begun)),
		allText(api.Stripe{State: freed, Owner: 0, Epoch: 1, Length: 0, Servers: []int{63, 0}}),
		allText(
			api.Stripe{State: begun, Owner: 3, Epoch: 200, Length: 10, Servers: []int{5, 6, 7}},
			api.Stripe{State: committed, Owner: 0, Epoch: 2, Length: 8192, Servers: []int{63, 0, 7, 8}},
			longest(freed)),
	}
}

// No beginning of a text is one, nor a text with more behind it.
func TestReadRefusesPieces(t *testing.T) {
	for _, s := range someTexts() {
		wantRead(t, s)
		for n := range len(s) {
			wantRefused(t, s[:n])
		}
		for n := range 256 {
			wantRefused(t, s+one(n))
		}
	}
}

// Texts that are equal do not tell whether they share memory; where they stand does.
func TestTextsAreNewMemory(t *testing.T) {
	m, _ := three(t)
	a, b := m.Text(), m.Text()
	if a != b || unsafe.StringData(a) == unsafe.StringData(b) {
		t.Error("the texts share memory")
	}
	a, b = smap.New().Text(), smap.New().Text()
	if a != b {
		t.Error("two texts of none")
	}
}

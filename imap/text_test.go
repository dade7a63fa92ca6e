package imap_test

import (
	"encoding/binary"
	"maps"
	"math"
	"testing"
	"unsafe"

	"hurdle/api"
	"hurdle/imap"
)

func wantText(t *testing.T, m *imap.Map, want string) {
	t.Helper()
	if got := m.Text(); got != want {
		t.Errorf("Text: %.200q of %d, want %.200q of %d", got, len(got), want, len(want))
	}
}

// wantRead reads s, which is a text, and wants it back again.
func wantRead(t *testing.T, s string) *imap.Map {
	t.Helper()
	m, err := imap.Read(s)
	if m == nil || err != api.OK {
		t.Fatalf("Read(%.200q of %d): error %d", s, len(s), err)
	}
	wantText(t, m, s)
	return m
}

func wantRefused(t *testing.T, s string) {
	t.Helper()
	if m, err := imap.Read(s); m != nil || err != api.ErrSyntax {
		t.Errorf("Read(%.200q of %d): %v and %d, want nil and ErrSyntax", s, len(s), m != nil, err)
	}
}

// num is n as chapter 3's int, which is what the library calls a varint.
func num(n int) string {
	return string(binary.AppendVarint(nil, int64(n)))
}

// one is a byte.
func one(n int) string {
	return string([]byte{byte(n)})
}

func spotText(inode int, s api.Spot) string {
	return num(inode) + num(s.Segment) + num(s.From) + num(s.Len) + num(s.Version)
}

func allText(k kept) string {
	s := num(len(k))
	for _, inode := range k.inodes() {
		s += spotText(inode, k[inode])
	}
	return s
}

// rowText is the text of some inodes just as they come.
func rowText(inodes ...int) string {
	s := []byte(num(len(inodes)))
	for _, inode := range inodes {
		s = append(s, spotText(inode, api.Spot{Segment: 3, From: 1, Len: 5, Version: 1})...)
	}
	return string(s)
}

func TestText(t *testing.T) {
	m := imap.New()
	wantText(t, m, "\x00")
	wantMove(t, m, 7, 0, api.Spot{Segment: 3, From: 1, Len: 5}, 1, api.OK)
	wantText(t, m, "\x02"+"\x0e\x06\x02\x0a\x02")
	wantMove(t, m, 7, 1, api.Spot{Segment: 3, From: 64, Len: 63}, 2, api.OK)
	wantText(t, m, "\x02"+"\x0e\x06\x80\x01\x7e\x04")
	wantMove(t, m, 255, 0, api.Spot{Segment: 4095, From: 65536, Len: 8192}, 1, api.OK)
	wantMove(t, m, 1, 0, api.Spot{}, 1, api.OK)
	wantText(t, m, "\x06"+"\x02\x00\x00\x00\x02"+"\x0e\x06\x80\x01\x7e\x04"+"\xfe\x03\xfe\x3f\x80\x80\x08\x80\x80\x01\x02")
	wantDrop(t, m, 7, 2, api.OK)
	wantText(t, m, "\x04"+"\x02\x00\x00\x00\x02"+"\xfe\x03\xfe\x3f\x80\x80\x08\x80\x80\x01\x02")
}

// A text tells where inodes stand, not how they came there.
func TestTextHangsOnWhereInodesStand(t *testing.T) {
	a, k := filled(t, 1, lastInode)
	b := imap.New()
	for inode := lastInode; inode > 0; inode-- {
		wantMove(t, b, inode, 0, api.Spot{Segment: 1}, 1, api.OK)
		wantDrop(t, b, inode, 1, api.OK)
		wantMove(t, b, inode, 0, k[inode], 1, api.OK)
	}
	wantText(t, b, a.Text())
}

// longest is the Spot of the longest text.
func longest() api.Spot {
	return api.Spot{Segment: lastSegment, From: mostBytes, Len: mostBytes, Version: mostVersion}
}

// longestOfAll are all inodes, each with the longest text.
func longestOfAll() kept {
	k := kept{}
	for inode := 1; inode <= lastInode; inode++ {
		k[inode] = longest()
	}
	return k
}

func TestTextOfAllInodes(t *testing.T) {
	for _, first := range []int{1, 2, 64, 128, 255} {
		m, k := filled(t, first, lastInode)
		wantAll(t, m, k)
		wantAll(t, wantRead(t, m.Text()), k)
	}
	wantAll(t, wantRead(t, allText(longestOfAll())), longestOfAll())
}

// What is read goes on as what was told.
func TestRead(t *testing.T) {
	m, k := three(t)
	back := wantRead(t, m.Text())
	for _, m := range []*imap.Map{m, back} {
		wantAll(t, m, k)
		wantMove(t, m, 7, 1, api.Spot{}, 0, api.ErrEpoch)
		wantMove(t, m, 7, 3, api.Spot{}, 0, api.ErrEpoch)
		wantMove(t, m, 7, 2, api.Spot{Segment: 4, From: 2, Len: 6}, 3, api.OK)
		wantMove(t, m, 2, 1, api.Spot{}, 0, api.ErrEpoch)
		wantMove(t, m, 2, 0, api.Spot{}, 1, api.OK)
		wantDrop(t, m, 255, 2, api.ErrEpoch)
		wantDrop(t, m, 255, 3, api.OK)
		wantDrop(t, m, 3, 0, api.ErrNone)
	}
	again := wantRead(t, back.Text())
	now := kept{1: k[1], 2: {Version: 1}, 7: {Segment: 4, From: 2, Len: 6, Version: 3}}
	for _, m := range []*imap.Map{m, back, again} {
		wantAll(t, m, now)
	}
	wantAll(t, wantRead(t, "\x00"), nil)
}

func TestReadTakesWhatMayBe(t *testing.T) {
	for inode := 1; inode <= lastInode; inode++ {
		for _, segment := range []int{0, 1, 63, 64, 4094, lastSegment} {
			for _, count := range []int{0, 1, 63, 64, 8191, 8192, mostBytes - 1, mostBytes} {
				for _, version := range []int{1, 2, 63, 64, 1 << 30, mostVersion - 1, mostVersion} {
					s := api.Spot{Segment: segment, From: count, Len: mostBytes - count, Version: version}
					wantGet(t, wantRead(t, one(2)+spotText(inode, s)), inode, s)
				}
			}
		}
	}
	wantAll(t, wantRead(t, allText(kept{5: longest()})), kept{5: longest()})
}

// A version that no text has any more is still one more.
func TestMoveFromTheLastVersion(t *testing.T) {
	m := wantRead(t, allText(kept{5: longest(), 6: longest()}))
	for version := mostVersion; version < mostVersion+3; version++ {
		wantMove(t, m, 5, version, longest(), version+1, api.OK)
		wantMove(t, m, 5, version, longest(), 0, api.ErrEpoch)
		s := longest()
		s.Version = version + 1
		wantAll(t, m, kept{5: s, 6: longest()})
		wantRefused(t, m.Text())
	}
	wantDrop(t, m, 5, mostVersion, api.ErrEpoch)
	wantDrop(t, m, 5, mostVersion+3, api.OK)
	wantDrop(t, m, 6, mostVersion, api.OK)
	wantMove(t, m, 6, 0, longest(), 1, api.OK)
	wantRead(t, m.Text())
}

func TestReadRefusesNumbers(t *testing.T) {
	good := api.Spot{Segment: 3, From: 1, Len: 5, Version: 1}
	// ones has what is changed first, in the midst, and last.
	ones := func(change func(s *api.Spot)) {
		t.Helper()
		s := good
		change(&s)
		wantRefused(t, allText(kept{7: s}))
		wantRefused(t, allText(kept{7: s, 8: good}))
		wantRefused(t, allText(kept{1: good, 7: s, 255: good}))
		wantRefused(t, allText(kept{1: good, 7: good, 255: s}))
	}
	for _, n := range notSegments() {
		ones(func(s *api.Spot) { s.Segment = n })
	}
	for _, n := range notCounts() {
		ones(func(s *api.Spot) { s.From = n })
		ones(func(s *api.Spot) { s.Len = n })
	}
	for _, n := range []int{math.MinInt, -mostVersion - 1, -mostVersion, -2, -1, 0, mostVersion + 1, mostVersion + 2, 1 << 32, 1 + 1<<32, math.MaxInt} {
		ones(func(s *api.Spot) { s.Version = n })
	}
	wantRead(t, allText(kept{1: good, 7: good, 255: good}))
}

// Inodes are told once each, and rising.
func TestReadRefusesInodes(t *testing.T) {
	for _, n := range notInodes() {
		wantRefused(t, rowText(n))
		wantRefused(t, rowText(n, 7))
		wantRefused(t, rowText(7, n))
		wantRefused(t, rowText(1, n, 255))
	}
	for a := 1; a <= lastInode; a++ {
		wantRefused(t, rowText(a, a))
		wantRefused(t, rowText(a, a+1, a))
		if a > 1 {
			wantRefused(t, rowText(a, a-1))
			wantRefused(t, rowText(a, 1))
			wantRead(t, rowText(a-1, a))
		}
	}
	wantRefused(t, rowText(1, 3, 2))
	wantRefused(t, rowText(2, 1, 3))
	wantRead(t, rowText(1, 2, 3))
}

func TestReadRefusesCounts(t *testing.T) {
	rest := rowText(7, 8)[1:]
	wantRead(t, num(2)+rest)
	wantRead(t, num(1)+rest[:len(rest)/2])
	for _, n := range []int{math.MinInt, -1 << 32, -256, -2, -1, 0, 1, 3, 255, 256, 1 << 32, 2 + 1<<32, math.MaxInt} {
		wantRefused(t, num(n)+rest)
	}
	for _, n := range []int{math.MinInt, -256, -1, 1, 255, 256, math.MaxInt} {
		wantRefused(t, num(n))
	}
	all := rowText(upTo(1, lastInode)...)
	wantRead(t, all)
	for _, n := range []int{254, 256, 257} {
		wantRefused(t, num(n)+all[len(num(lastInode)):])
	}
	wantRefused(t, rowText(upTo(1, 256)...))
	wantRefused(t, rowText(upTo(0, 256)...))
	wantRefused(t, rowText(upTo(0, 100000)...))
	wantRefused(t, rowText(append(upTo(1, lastInode), upTo(1, lastInode)...)...))
	// A number is laid in its least bytes.
	for _, s := range []string{
		"", "\x80", "\x80\x00", "\x82\x00" + "\x0e\x06\x02\x0a\x02", "\x82\x80\x00" + "\x0e\x06\x02\x0a\x02",
		"\x02" + "\x8e\x00\x06\x02\x0a\x02", "\x02" + "\x0e\x86\x00\x02\x0a\x02", "\x02" + "\x0e\x06\x82\x00\x0a\x02",
		"\x02" + "\x0e\x06\x02\x8a\x00\x02", "\x02" + "\x0e\x06\x02\x0a\x82\x00",
		"\x02" + "\x0e\x06\x02\x0a\x82\xff\xff\xff\xff\xff\xff\xff\xff\x02",
	} {
		wantRefused(t, s)
	}
	wantRead(t, "\x02"+"\x0e\x06\x02\x0a\x02")
}

// someTexts are of unlike kinds.
func someTexts() []string {
	few := kept{1: {Version: 1}, 7: {Segment: 3, From: 64, Len: 5, Version: 200}, 64: longest()}
	most := maps.Clone(few)
	maps.Copy(most, kept{2: longest(), 3: {Segment: 64, From: 1, Len: 8192, Version: 2}, 255: {Segment: 4095, Version: 64}})
	return []string{allText(nil), allText(kept{255: longest()}), allText(few), allText(most)}
}

// No beginning of a text is one, nor a text with more behind it.
func TestReadRefusesPieces(t *testing.T) {
	for _, s := range append(someTexts(), allText(longestOfAll())) {
		wantRead(t, s)
		for n := range len(s) {
			wantRefused(t, s[:n])
		}
		for n := range 256 {
			wantRefused(t, s+one(n))
		}
	}
}

// Texts that are equal do not tell whether they share memory; where they stand does.
func TestTextsAreNewMemory(t *testing.T) {
	m, _ := three(t)
	a, b := m.Text(), m.Text()
	if a != b || unsafe.StringData(a) == unsafe.StringData(b) {
		t.Error("the texts share memory")
	}
	a, b = imap.New().Text(), imap.New().Text()
	if a != b {
		t.Error("two texts of none")
	}
}

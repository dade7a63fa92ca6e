package imap_test

import (
	"math"
	"slices"
	"testing"

	"hurdle/api"
	"hurdle/imap"
)

const (
	lastInode   = 255
	lastSegment = 4095
	mostBytes   = 1 << 16
	mostVersion = 1<<31 - 1
)

func notInodes() []int {
	return []int{math.MinInt, -255, -7, -1, 0, 256, 257, 263, 511, 512, 7 + 1<<32, 1 << 32, math.MaxInt}
}

func notSegments() []int {
	return []int{math.MinInt, -4096, -3, -1, 4096, 4097, 8191, 8192, 1 << 32, 3 + 1<<32, math.MaxInt}
}

func notCounts() []int {
	return []int{math.MinInt, -mostBytes, -5, -1, mostBytes + 1, 2 * mostBytes, 1 << 32, 5 + 1<<32, math.MaxInt}
}

func notVersions(v int) []int {
	return []int{math.MinInt, -v - 1, -1, v - 1, v + 1, v + 2, v + 256, v + 1<<32, math.MaxInt}
}

// upTo is the row of numbers from first on, count of them.
func upTo(first, count int) []int {
	var l []int
	for i := range count {
		l = append(l, first+i)
	}
	return l
}

// brief is the beginning of a list that is told.
func brief(l []int) []int {
	return l[:min(len(l), 12)]
}

func wantMove(t *testing.T, m *imap.Map, inode, version int, to api.Spot, want int, wantErr api.Errno) {
	t.Helper()
	if got, err := m.Move(inode, version, to); got != want || err != wantErr {
		t.Errorf("Move(%d, %d, %+v): %d and %d, want %d and %d", inode, version, to, got, err, want, wantErr)
	}
}

func wantDrop(t *testing.T, m *imap.Map, inode, version int, want api.Errno) {
	t.Helper()
	if got := m.Drop(inode, version); got != want {
		t.Errorf("Drop(%d, %d): %d, want %d", inode, version, got, want)
	}
}

func wantGet(t *testing.T, m *imap.Map, inode int, want api.Spot) {
	t.Helper()
	if got, ok := m.Get(inode); !ok || got != want {
		t.Errorf("Get(%d): %+v and %v, want %+v", inode, got, ok, want)
	}
}

func wantNoSpot(t *testing.T, m *imap.Map, inode int) {
	t.Helper()
	if got, ok := m.Get(inode); ok || got != (api.Spot{}) {
		t.Errorf("Get(%d): %+v and %v, want none", inode, got, ok)
	}
}

func wantInodes(t *testing.T, m *imap.Map, want []int) {
	t.Helper()
	if got := m.All(); !slices.Equal(got, want) {
		t.Errorf("All: %v of %d, want %v of %d", brief(got), len(got), brief(want), len(want))
	}
}

func wantLive(t *testing.T, m *imap.Map, segment, want int) {
	t.Helper()
	if got := m.Live(segment); got != want {
		t.Errorf("Live(%d): %d, want %d", segment, got, want)
	}
}

func wantFree(t *testing.T, m *imap.Map, want int) {
	t.Helper()
	if got := m.Free(); got != want {
		t.Errorf("Free: %d, want %d", got, want)
	}
}

// kept are the Spots of some inodes.
type kept map[int]api.Spot

func (k kept) inodes() []int {
	var l []int
	for inode := range lastInode + 1 {
		if _, ok := k[inode]; ok {
			l = append(l, inode)
		}
	}
	return l
}

func (k kept) free() int {
	for inode := 2; inode <= lastInode; inode++ {
		if _, ok := k[inode]; !ok {
			return inode
		}
	}
	return 0
}

// wantAll asks all that is told of a map that has just those Spots.
func wantAll(t *testing.T, m *imap.Map, k kept) {
	t.Helper()
	live := map[int]int{}
	for inode := -1; inode <= lastInode+1; inode++ {
		s, ok := k[inode]
		if !ok {
			wantNoSpot(t, m, inode)
			continue
		}
		wantGet(t, m, inode, s)
		live[s.Segment] += s.Len
	}
	for segment, sum := range live {
		wantLive(t, m, segment, sum)
	}
	for _, segment := range append(notSegments(), 0, 1, 2, 3, 4, 4094, lastSegment) {
		wantLive(t, m, segment, live[segment])
	}
	wantInodes(t, m, k.inodes())
	wantFree(t, m, k.free())
	wantText(t, m, allText(k))
}

// three is a map of inodes 1, 7 and 255, which have moved one, two and three times.
func three(t *testing.T) (*imap.Map, kept) {
	t.Helper()
	m, k := imap.New(), kept{
		1:   {Segment: 0, From: 10, Len: 0, Version: 1},
		7:   {Segment: 3, From: 1, Len: 5, Version: 2},
		255: {Segment: lastSegment, From: mostBytes, Len: mostBytes, Version: 3},
	}
	for inode, s := range k {
		for version := range s.Version {
			wantMove(t, m, inode, version, s, version+1, api.OK)
		}
	}
	wantAll(t, m, k)
	return m, k
}

// filled has all inodes of first to last, each with as many bytes in segment 9 as its number.
func filled(t *testing.T, first, last int) (*imap.Map, kept) {
	t.Helper()
	m, k := imap.New(), kept{}
	for inode := first; inode <= last; inode++ {
		s := api.Spot{Segment: 9, From: 2 * inode, Len: inode, Version: 1}
		wantMove(t, m, inode, 0, s, 1, api.OK)
		k[inode] = s
	}
	return m, k
}

func TestExample(t *testing.T) {
	m, to := imap.New(), api.Spot{Segment: 3, From: 1, Len: 5}
	wantMove(t, m, 7, 0, to, 1, api.OK)
	wantMove(t, m, 7, 0, to, 0, api.ErrEpoch)
	wantAll(t, m, kept{7: {Segment: 3, From: 1, Len: 5, Version: 1}})
}

func TestNew(t *testing.T) {
	m := imap.New()
	if m == nil {
		t.Fatal("New: nil")
	}
	wantAll(t, m, nil)
	wantFree(t, m, 2)
	for _, inode := range notInodes() {
		wantNoSpot(t, m, inode)
	}
}

// Any inode moves to whatever place there is.
func TestMove(t *testing.T) {
	m, k := imap.New(), kept{}
	for inode := 1; inode <= lastInode; inode++ {
		for version, to := range []api.Spot{
			{Segment: inode, From: 0, Len: inode},
			{Segment: lastSegment, From: mostBytes, Len: mostBytes},
			{Segment: 0, From: 0, Len: 0},
			{Segment: 0, From: 0, Len: 0},
			{Segment: 16 * inode, From: inode, Len: mostBytes - inode},
		} {
			wantMove(t, m, inode, version, to, version+1, api.OK)
			to.Version = version + 1
			k[inode] = to
			wantGet(t, m, inode, to)
		}
		if inode%32 == 1 {
			wantAll(t, m, k)
		}
	}
	wantAll(t, m, k)
	wantFree(t, m, 0)
}

// The version that is handed in within the place says nothing.
func TestMoveTakesNoVersionOfThePlace(t *testing.T) {
	m := imap.New()
	for version, said := range []int{0, 5, -1, 1 << 40, math.MinInt, math.MaxInt, 6, 7} {
		wantMove(t, m, 7, version, api.Spot{Segment: 3, From: 1, Len: 5, Version: said}, version+1, api.OK)
		wantAll(t, m, kept{7: {Segment: 3, From: 1, Len: 5, Version: version + 1}})
	}
}

func TestMoveRefuses(t *testing.T) {
	m, k := three(t)
	good := api.Spot{Segment: 3, From: 1, Len: 5}
	for _, inode := range notInodes() {
		for _, version := range []int{-1, 0, 1, 2} {
			wantMove(t, m, inode, version, good, 0, api.ErrArg)
		}
	}
	for _, inode := range []int{1, 2, 7, 255} {
		for version := -1; version <= 3; version++ {
			for _, n := range notSegments() {
				wantMove(t, m, inode, version, api.Spot{Segment: n, From: 1, Len: 5}, 0, api.ErrArg)
			}
			for _, n := range notCounts() {
				wantMove(t, m, inode, version, api.Spot{Segment: 3, From: n, Len: 5}, 0, api.ErrArg)
				wantMove(t, m, inode, version, api.Spot{Segment: 3, From: 1, Len: n}, 0, api.ErrArg)
			}
		}
	}
	wantAll(t, m, k)
}

func TestMoveRefusesVersions(t *testing.T) {
	m, k := three(t)
	for inode := 1; inode <= lastInode; inode++ {
		for _, version := range notVersions(k[inode].Version) {
			wantMove(t, m, inode, version, api.Spot{Segment: 1, From: 1, Len: 1}, 0, api.ErrEpoch)
			wantMove(t, m, inode, version, api.Spot{Segment: 1, From: 1, Len: 1, Version: version}, 0, api.ErrEpoch)
		}
	}
	wantAll(t, m, k)
}

// Of two that move an inode from one version one is refused, and tries again from what it finds.
func TestOfTwoMovesOneIsRefused(t *testing.T) {
	m := imap.New()
	for version := range 100 {
		first := api.Spot{Segment: version, From: 1, Len: 2}
		second := api.Spot{Segment: version, From: 3, Len: 4}
		wantMove(t, m, 9, 2*version, first, 2*version+1, api.OK)
		wantMove(t, m, 9, 2*version, second, 0, api.ErrEpoch)
		wantMove(t, m, 9, 2*version, first, 0, api.ErrEpoch)
		wantDrop(t, m, 9, 2*version, api.ErrEpoch)
		first.Version = 2*version + 1
		wantAll(t, m, kept{9: first})
		found, _ := m.Get(9)
		wantMove(t, m, 9, found.Version, second, found.Version+1, api.OK)
	}
}

func TestDrop(t *testing.T) {
	m, k := three(t)
	for _, inode := range []int{7, 255, 1} {
		wantDrop(t, m, inode, k[inode].Version, api.OK)
		version := k[inode].Version
		delete(k, inode)
		wantAll(t, m, k)
		for _, v := range append(notVersions(version), version) {
			wantDrop(t, m, inode, v, api.ErrNone)
		}
	}
	wantAll(t, m, nil)
}

// What was dropped begins anew.
func TestMoveBehindDrop(t *testing.T) {
	m, k := three(t)
	to := api.Spot{Segment: 8, From: 9, Len: 10}
	for inode, s := range k {
		wantDrop(t, m, inode, s.Version, api.OK)
		for _, version := range notVersions(0) {
			wantMove(t, m, inode, version, to, 0, api.ErrEpoch)
		}
		wantNoSpot(t, m, inode)
		wantMove(t, m, inode, 0, to, 1, api.OK)
		wantMove(t, m, inode, 0, to, 0, api.ErrEpoch)
		wantGet(t, m, inode, api.Spot{Segment: 8, From: 9, Len: 10, Version: 1})
	}
	to.Version = 1
	wantAll(t, m, kept{1: to, 7: to, 255: to})
}

func TestDropRefuses(t *testing.T) {
	m, k := three(t)
	for _, inode := range notInodes() {
		for version := -1; version <= 3; version++ {
			wantDrop(t, m, inode, version, api.ErrArg)
		}
	}
	for inode := 1; inode <= lastInode; inode++ {
		s, ok := k[inode]
		for _, version := range notVersions(s.Version) {
			if ok {
				wantDrop(t, m, inode, version, api.ErrEpoch)
			} else {
				wantDrop(t, m, inode, version, api.ErrNone)
			}
		}
		if !ok {
			wantDrop(t, m, inode, 0, api.ErrNone)
		}
	}
	wantAll(t, m, k)
}

func TestGetAndAll(t *testing.T) {
	m, k := three(t)
	for _, inode := range notInodes() {
		wantNoSpot(t, m, inode)
	}
	wantInodes(t, m, []int{1, 7, 255})
	for inode := lastInode; inode > 0; inode-- {
		if _, ok := k[inode]; !ok {
			wantMove(t, m, inode, 0, api.Spot{}, 1, api.OK)
		}
	}
	wantInodes(t, m, upTo(1, lastInode))
	for inode := 2; inode <= lastInode; inode += 2 {
		wantDrop(t, m, inode, 1, api.OK)
	}
	var odd []int
	for inode := 1; inode <= lastInode; inode += 2 {
		odd = append(odd, inode)
	}
	wantInodes(t, m, odd)
}

func TestLive(t *testing.T) {
	m, _ := filled(t, 1, lastInode)
	wantLive(t, m, 9, 255*256/2)
	wantLive(t, m, 8, 0)
	wantLive(t, m, 10, 0)
	// What has moved to another segment, or within one, or is no more, is counted where it stands.
	wantMove(t, m, 100, 1, api.Spot{Segment: 8, From: 0, Len: 40}, 2, api.OK)
	wantLive(t, m, 9, 255*256/2-100)
	wantLive(t, m, 8, 40)
	wantMove(t, m, 200, 1, api.Spot{Segment: 9, From: 7, Len: 300}, 2, api.OK)
	wantLive(t, m, 9, 255*256/2)
	wantDrop(t, m, 255, 1, api.OK)
	wantLive(t, m, 9, 255*256/2-255)
	wantDrop(t, m, 100, 2, api.OK)
	wantLive(t, m, 8, 0)
	for _, segment := range append(notSegments(), 9+4096, 9+1<<32, 9-4096) {
		wantLive(t, m, segment, 0)
	}
}

// All inodes may stand in one segment, each with as many bytes as there may be.
func TestLiveOfTheMost(t *testing.T) {
	for _, segment := range []int{0, 1, lastSegment} {
		m := imap.New()
		for inode := 1; inode <= lastInode; inode++ {
			wantMove(t, m, inode, 0, api.Spot{Segment: segment, From: mostBytes, Len: mostBytes}, 1, api.OK)
			wantLive(t, m, segment, inode*mostBytes)
		}
	}
}

// Free goes past no gap, and never tells 1.
func TestFree(t *testing.T) {
	m := imap.New()
	for inode := 2; inode <= lastInode; inode++ {
		wantFree(t, m, inode)
		wantMove(t, m, inode, 0, api.Spot{}, 1, api.OK)
	}
	wantFree(t, m, 0)
	wantMove(t, m, 1, 0, api.Spot{}, 1, api.OK)
	wantFree(t, m, 0)
	for _, inode := range []int{255, 128, 200, 3, 100, 2, 1} {
		wantDrop(t, m, inode, 1, api.OK)
		wantFree(t, m, map[int]int{255: 255, 128: 128, 200: 128, 3: 3, 100: 3, 2: 2, 1: 2}[inode])
	}
	for _, next := range []int{2, 3, 100, 128, 200, 255} {
		wantFree(t, m, next)
		wantMove(t, m, next, 0, api.Spot{}, 1, api.OK)
	}
	wantFree(t, m, 0)
}

func TestNil(t *testing.T) {
	var m *imap.Map
	for inode := -1; inode <= 3; inode++ {
		for version := -1; version <= 1; version++ {
			wantMove(t, m, inode, version, api.Spot{Segment: 3, From: 1, Len: 5}, 0, api.ErrArg)
			wantDrop(t, m, inode, version, api.ErrArg)
		}
		wantNoSpot(t, m, inode)
		wantLive(t, m, inode, 0)
	}
	wantInodes(t, m, nil)
	wantFree(t, m, 0)
	wantText(t, m, "")
}

func TestMapsAreApart(t *testing.T) {
	a, k := three(t)
	b, c := wantRead(t, a.Text()), imap.New()
	wantMove(t, b, 7, 2, api.Spot{Segment: 1}, 3, api.OK)
	wantMove(t, b, 2, 0, api.Spot{Segment: 1}, 1, api.OK)
	wantDrop(t, b, 255, 3, api.OK)
	wantMove(t, c, 7, 0, api.Spot{Segment: 2}, 1, api.OK)
	wantAll(t, a, k)
	wantDrop(t, a, 1, 1, api.OK)
	wantAll(t, b, kept{1: k[1], 2: {Segment: 1, Version: 1}, 7: {Segment: 1, Version: 3}})
	wantAll(t, c, kept{7: {Segment: 2, Version: 1}})
}

// What is done to an answer, behind its end too, does not show, nor does what is done behind it change it.
func TestAnswersAreNewMemory(t *testing.T) {
	m, k := filled(t, 1, 5)
	first, second := m.All(), m.All()
	clear(first[:cap(first)])
	if !slices.Equal(second, upTo(1, 5)) {
		t.Errorf("what was told is now %v", second)
	}
	wantAll(t, m, k)
	told, _ := m.Get(3)
	wantDrop(t, m, 3, 1, api.OK)
	if told != k[3] || !slices.Equal(second, upTo(1, 5)) {
		t.Errorf("what was told is now %v and %v", told, second)
	}
	wantInodes(t, m, []int{1, 2, 4, 5})
}

package imap_test

import (
	"encoding/binary"
	"fmt"
	"slices"
	"testing"

	"hurdle/api"
	"hurdle/imap"
)

// lot gives numbers of many values, the same ones each time.
type lot uint64

func (l *lot) below(n int) int {
	*l = *l*6364136223846793005 + 1442695040888963407
	return int(uint64(*l)>>33) % n
}

// when is the error, if that is so.
func when(so bool, err api.Errno) api.Errno {
	if so {
		return err
	}
	return api.OK
}

// least is of all errors the least.
func least(errs ...api.Errno) api.Errno {
	slices.Sort(errs)
	for _, err := range errs {
		if err != api.OK {
			return err
		}
	}
	return api.OK
}

// mayStand tells whether Move might have taken it.
func mayStand(inode int, s api.Spot) bool {
	return inode >= 1 && inode <= 255 && s.Segment >= 0 && s.Segment <= 4095 &&
		s.From >= 0 && s.From <= 65536 && s.Len >= 0 && s.Len <= 65536
}

// move does the chapter's words one at a time.
func (k kept) move(inode, version int, to api.Spot) (int, api.Errno) {
	err := least(
		when(!mayStand(inode, to), api.ErrArg),
		when(version != k[inode].Version, api.ErrEpoch))
	if err != api.OK {
		return 0, err
	}
	to.Version = version + 1
	k[inode] = to
	return to.Version, api.OK
}

// drop does the chapter's words one at a time.
func (k kept) drop(inode, version int) api.Errno {
	s, ok := k[inode]
	err := least(
		when(inode < 1 || inode > 255, api.ErrArg),
		when(!ok, api.ErrNone),
		when(version != s.Version, api.ErrEpoch))
	if err == api.OK {
		delete(k, inode)
	}
	return err
}

// near is a number of a few, or of those about the greatest.
func (l *lot) near(most int) int {
	switch l.below(16) {
	case 0:
		return most + l.below(3) - 1
	case 1:
		return l.below(3) - 1
	}
	return l.below(4)
}

// doBoth does one step to both, and tells what came of it.
func doBoth(t *testing.T, l *lot, m *imap.Map, k kept, width int) string {
	t.Helper()
	inode := l.below(width + 2)
	if l.below(8) == 0 {
		inode = 255 - inode
	}
	version := k[inode].Version
	if l.below(4) == 0 {
		version += l.below(5) - 2
	}
	if l.below(3) > 0 {
		to := api.Spot{Segment: l.near(4095), From: l.near(65536), Len: l.near(65536), Version: l.below(5) - 1}
		next, err := k.move(inode, version, to)
		wantMove(t, m, inode, version, to, next, err)
		return fmt.Sprint("move ", err)
	}
	err := k.drop(inode, version)
	wantDrop(t, m, inode, version, err)
	return fmt.Sprint("drop ", err)
}

func TestAsThePlainOne(t *testing.T) {
	count := map[string]int{}
	for round := range 40 {
		l := lot(2500 + round)
		m, k := imap.New(), kept{}
		for now := range 300 {
			count[doBoth(t, &l, m, k, 2+6*round)]++
			if l.below(10) == 0 {
				m = wantRead(t, m.Text())
			}
			if now%4 == 0 {
				wantAll(t, m, k)
			}
			if t.Failed() {
				t.Fatalf("round %d, step %d", round, now)
			}
		}
	}
	for what, errs := range map[string][]api.Errno{
		"move": {api.OK, api.ErrArg, api.ErrEpoch},
		"drop": {api.OK, api.ErrArg, api.ErrNone, api.ErrEpoch},
	} {
		for _, err := range errs {
			if sum := count[fmt.Sprint(what, " ", err)]; sum < 50 {
				t.Errorf("%s tells %v %d times: too seldom to tell", what, err, sum)
			}
		}
	}
}

// Two maps to which the same is done tell the same.
func TestTheSameIsTold(t *testing.T) {
	var texts []string
	for range 2 {
		l := lot(25)
		m, k := imap.New(), kept{}
		all := ""
		for range 300 {
			all += doBoth(t, &l, m, k, 9) + m.Text()
		}
		texts = append(texts, all)
	}
	if texts[0] != texts[1] {
		t.Error("two maps told two things")
	}
}

// plainInts reads numbers till the end, each in its least bytes.
func plainInts(s string) ([]int, bool) {
	var l []int
	for s != "" {
		n, size := binary.Varint([]byte(s))
		if size <= 0 || num(int(n)) != s[:size] {
			return nil, false
		}
		l, s = append(l, int(n)), s[size:]
	}
	return l, true
}

// plainRead reads what Text laid with the chapter's words done one at a time.
func plainRead(s string) (kept, bool) {
	l, ok := plainInts(s)
	if !ok || len(l) == 0 || l[0] < 0 || l[0] > 255 || len(l) != 1+5*l[0] {
		return nil, false
	}
	k := kept{}
	for at := 1; at < len(l); at += 5 {
		to := api.Spot{Segment: l[at+1], From: l[at+2], Len: l[at+3], Version: l[at+4]}
		rising := at == 1 || l[at] > l[at-5]
		if !rising || !mayStand(l[at], to) || to.Version < 1 || to.Version > mostVersion {
			return nil, false
		}
		k[l[at]] = to
	}
	return k, true
}

// Whatever bytes: they are refused, or what is read is written just so.
func TestReadAsThePlainOne(t *testing.T) {
	taken, refused := 0, 0
	look := func(s string) {
		t.Helper()
		k, ok := plainRead(s)
		if !ok {
			wantRefused(t, s)
			refused++
			return
		}
		m := wantRead(t, s)
		for inode, spot := range k {
			wantGet(t, m, inode, spot)
		}
		wantInodes(t, m, k.inodes())
		taken++
	}
	for _, s := range someTexts() {
		for at := range len(s) {
			for n := range 256 {
				look(s[:at] + one(n) + s[at+1:])
				look(s[:at] + one(n) + s[at:])
			}
			look(s[:at] + s[at+1:])
		}
	}
	for a := range 256 {
		look(one(a))
		for b := range 256 {
			look(one(a) + one(b))
		}
	}
	l := lot(25)
	for range 100000 {
		row := make([]byte, 11)
		for i := range row {
			row[i] = byte(l.below(12))
		}
		row[0] = 4
		if l.below(2) == 0 {
			for i := range row {
				row[i] &^= 1
			}
		}
		look(string(row))
	}
	if taken < 1000 || refused < 1000 {
		t.Errorf("%d are taken, %d refused: too few to tell", taken, refused)
	}
}

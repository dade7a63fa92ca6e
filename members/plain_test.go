package members_test

import (
	"encoding/binary"
	"fmt"
	"slices"
	"testing"

	"hurdle/api"
	"hurdle/members"
)

// lot gives numbers of many values, the same ones each time.
type lot uint64

func (l *lot) below(n int) int {
	*l = *l*6364136223846793005 + 1442695040888963407
	return int(uint64(*l)>>33) % n
}

// plain is a group with the chapter's words done one at a time.
type plain struct {
	epoch, hole, filled, gone int
	servers, spares           []int
}

// when is the error, if that is so.
func when(so bool, err api.Errno) api.Errno {
	if so {
		return err
	}
	return api.OK
}

// least is of all errors the least.
func least(errs ...api.Errno) api.Errno {
	slices.Sort(errs)
	for _, err := range errs {
		if err != api.OK {
			return err
		}
	}
	return api.OK
}

func (p *plain) fail(server, epoch int) api.Errno {
	err := least(
		when(!slices.Contains(p.servers, server), api.ErrNone),
		when(p.hole != -1, api.ErrLost),
		when(epoch != p.epoch, api.ErrEpoch))
	if err == api.OK {
		p.hole, p.gone, p.epoch = slices.Index(p.servers, server), server, p.epoch+1
	}
	return err
}

func (p *plain) swap(epoch int) (int, api.Errno) {
	err := least(
		when(len(p.spares) == 0, api.ErrNone),
		when(epoch != p.epoch, api.ErrEpoch),
		when(p.hole == -1, api.ErrState),
		when(p.filled == 1, api.ErrState))
	if err != api.OK {
		return 0, err
	}
	which := p.spares[0]
	p.servers[p.hole], p.filled, p.epoch = which, 1, p.epoch+1
	p.spares = slices.Clone(p.spares[1:])
	return which, api.OK
}

func (p *plain) done(epoch int) api.Errno {
	err := least(
		when(epoch != p.epoch, api.ErrEpoch),
		when(p.filled == 0, api.ErrState))
	if err == api.OK {
		p.hole, p.filled, p.gone, p.epoch = -1, 0, -1, p.epoch+1
	}
	return err
}

func (p *plain) add(spare int) api.Errno {
	err := least(
		when(spare < 0 || spare > 63, api.ErrArg),
		when(p.has(spare) || p.gone != -1 && p.gone == spare, api.ErrTwice))
	if err == api.OK {
		p.spares = append(p.spares, spare)
	}
	return err
}

func (p *plain) has(id int) bool {
	return slices.Contains(p.servers, id) || slices.Contains(p.spares, id)
}

func (p *plain) text() string {
	return allText(p.epoch, p.hole, p.filled, p.gone, p.servers, p.spares)
}

// mayBe tells whether it is one that a text may tell.
func (p *plain) mayBe() bool {
	all := slices.Sorted(slices.Values(slices.Concat(p.servers, p.spares)))
	if len(p.servers) < 2 || len(p.servers) > 8 || all[0] < 0 || all[len(all)-1] > 63 || len(slices.Compact(slices.Clone(all))) < len(all) {
		return false
	}
	if p.epoch < 1 || p.hole < -1 || p.hole >= len(p.servers) {
		return false
	}
	switch {
	case p.hole == -1:
		return p.filled == 0 && p.gone == -1
	case p.filled == 0:
		return p.gone == p.servers[p.hole]
	}
	return p.filled == 1 && p.gone >= 0 && p.gone <= 63 && !p.has(p.gone)
}

// plainRead is what s tells, if it tells one that may be in just those bytes.
func plainRead(s string) (*plain, bool) {
	left := []byte(s)
	next := func() int {
		n, size := binary.Varint(left)
		left = left[max(size, 0):]
		return int(n)
	}
	list := func() []int {
		var l []int
		for range min(next(), len(left)) {
			l = append(l, next())
		}
		return l
	}
	p := &plain{epoch: next(), hole: next()}
	if len(left) > 0 {
		p.filled, left = int(left[0]), left[1:]
	}
	p.gone, p.servers, p.spares = next(), list(), list()
	return p, p.text() == s && p.mayBe()
}

// someEpoch is near the epoch, and most often that.
func someEpoch(l *lot, epoch int) int {
	if l.below(4) == 0 {
		return epoch + l.below(5) - 2
	}
	return epoch
}

// someId is most often one that may be, and as often as near says a server.
func someId(l *lot, p *plain, near int) int {
	if l.below(100) < near {
		return p.servers[l.below(len(p.servers))]
	}
	return l.below(70) - 3
}

// doBoth does one thing to both, and tells what it was, and what came of it.
func doBoth(t *testing.T, l *lot, m *members.Members, p *plain) string {
	t.Helper()
	epoch := someEpoch(l, p.epoch)
	switch kind := l.below(10); {
	case kind < 3:
		server := someId(l, p, 60)
		err := p.fail(server, epoch)
		wantFail(t, m, server, epoch, err)
		return fmt.Sprint("fail ", err)
	case kind < 6:
		which, err := p.swap(epoch)
		wantSwap(t, m, epoch, which, err)
		return fmt.Sprint("swap ", err)
	case kind < 8:
		err := p.done(epoch)
		wantDone(t, m, epoch, err)
		return fmt.Sprint("done ", err)
	}
	spare := someId(l, p, 10)
	if p.gone != -1 && l.below(5) == 0 {
		spare = p.gone
	}
	err := p.add(spare)
	wantAdd(t, m, spare, err)
	return fmt.Sprint("add ", err)
}

// newBoth is a group of numbers that no rule picks.
func newBoth(t *testing.T, l *lot) (*members.Members, *plain) {
	t.Helper()
	all := upTo(0, ids)
	for i := range all {
		j := i + l.below(ids-i)
		all[i], all[j] = all[j], all[i]
	}
	n := 2 + l.below(mostServers-1)
	servers, spares := all[:n], all[n:n+l.below(4)]
	return newGroup(t, servers, spares), &plain{epoch: 1, hole: -1, gone: -1, servers: slices.Clone(servers), spares: slices.Clone(spares)}
}

func TestAsThePlainOne(t *testing.T) {
	count := map[string]int{}
	for round := range 200 {
		l := lot(2300 + round)
		m, p := newBoth(t, &l)
		for now := range 300 {
			count[doBoth(t, &l, m, p)]++
			wantGroup(t, m, p.epoch, p.hole, p.servers, p.spares)
			wantText(t, m, p.text())
			if !p.mayBe() {
				t.Errorf("no text may be %+v", p)
			}
			if l.below(10) == 0 {
				m = wantRead(t, m.Text())
			}
			if t.Failed() {
				t.Fatalf("round %d, step %d", round, now)
			}
		}
	}
	for what, errs := range map[string][]api.Errno{
		"fail": {api.OK, api.ErrNone, api.ErrLost, api.ErrEpoch},
		"swap": {api.OK, api.ErrNone, api.ErrEpoch, api.ErrState},
		"done": {api.OK, api.ErrEpoch, api.ErrState},
		"add":  {api.OK, api.ErrArg, api.ErrTwice},
	} {
		for _, err := range errs {
			if sum := count[fmt.Sprint(what, " ", err)]; sum < 100 {
				t.Errorf("%s tells %d %d times: too seldom to tell", what, err, sum)
			}
		}
	}
}

// Two groups to which the same is done tell the same.
func TestTheSameIsTold(t *testing.T) {
	var texts []string
	for range 2 {
		l := lot(23)
		m, p := newBoth(t, &l)
		all := ""
		for range 1000 {
			all += doBoth(t, &l, m, p) + m.Text()
		}
		texts = append(texts, all)
	}
	if texts[0] != texts[1] {
		t.Error("two groups told two things")
	}
}

// Whatever bytes: they are refused, or what is read is written just so.
func TestReadAsThePlainOne(t *testing.T) {
	taken, refused := 0, 0
	look := func(s string) {
		t.Helper()
		p, ok := plainRead(s)
		if !ok {
			wantRefused(t, s)
			refused++
			return
		}
		wantGroup(t, wantRead(t, s), p.epoch, p.hole, p.servers, p.spares)
		taken++
	}
	for _, s := range someTexts() {
		for at := range len(s) {
			for n := range 256 {
				look(s[:at] + one(n) + s[at+1:])
				look(s[:at] + one(n) + s[at:])
			}
			look(s[:at] + s[at+1:])
		}
	}
	for a := range 256 {
		look(one(a))
		for b := range 256 {
			look(one(a) + one(b))
		}
	}
	l := lot(23)
	for range 300000 {
		row := make([]byte, 7+l.below(4))
		for i := range row {
			row[i] = byte(l.below(10))
		}
		row[2] %= 2
		look(string(row))
	}
	if taken < 1000 || refused < 1000 {
		t.Errorf("%d are taken, %d refused: too few to tell", taken, refused)
	}
}

package smap_test

import (
	"encoding/binary"
	"fmt"
	"slices"
	"testing"

	"hurdle/api"
	"hurdle/smap"
)

// lot gives numbers of many values, the same ones each time.
type lot uint64

func (l *lot) below(n int) int {
	*l = *l*6364136223846793005 + 1442695040888963407
	return int(uint64(*l)>>33) % n
}

// plain is a map with the chapter's words done one at a time.
type plain struct {
	all []api.Stripe
}

// when is the error, if that is so.
func when(so bool, err api.Errno) api.Errno {
	if so {
		return err
	}
	return api.OK
}

// least is of all errors the least.
func least(errs ...api.Errno) api.Errno {
	slices.Sort(errs)
	for _, err := range errs {
		if err != api.OK {
			return err
		}
	}
	return api.OK
}

// notFreed is how many are not.
func (p *plain) notFreed() int {
	sum := 0
	for _, s := range p.all {
		if s.State != freed {
			sum++
		}
	}
	return sum
}

func (p *plain) known(id int) bool {
	return id >= 0 && id < len(p.all)
}

// severalTwice tells whether one number stands in l more than once.
func severalTwice(l []int) bool {
	for i, n := range l {
		if slices.Contains(l[:i], n) {
			return true
		}
	}
	return false
}

// mayBe tells whether Begin might have made it.
func mayBe(s api.Stripe) bool {
	for _, n := range s.Servers {
		if n < 0 || n > 63 {
			return false
		}
	}
	return s.Owner >= 0 && s.Owner <= 15 && s.Epoch >= 1 && s.Length >= 0 && s.Length <= 65536 &&
		len(s.Servers) >= 2 && len(s.Servers) <= 8 && !severalTwice(s.Servers)
}

func (p *plain) begin(s api.Stripe) (int, api.Errno) {
	err := least(
		when(!mayBe(s), api.ErrArg),
		when(p.notFreed() >= 256, api.ErrFull),
		when(len(p.all) >= 4096, api.ErrFull))
	if err != api.OK {
		return 0, err
	}
	s.Id, s.State, s.Servers = len(p.all), begun, slices.Clone(s.Servers)
	p.all = append(p.all, s)
	return s.Id, api.OK
}

func (p *plain) commit(id, owner int) api.Errno {
	if !p.known(id) {
		return api.ErrNone
	}
	s := &p.all[id]
	if s.State != begun || s.Owner != owner {
		return api.ErrState
	}
	s.State = committed
	return api.OK
}

func (p *plain) free(id int) api.Errno {
	if !p.known(id) {
		return api.ErrNone
	}
	if p.all[id].State == freed {
		return api.ErrState
	}
	p.all[id].State = freed
	return api.OK
}

func (p *plain) drop(owner int) []int {
	var ids []int
	for id := range p.all {
		if p.all[id].State == begun && p.all[id].Owner == owner {
			p.all[id].State = freed
			ids = append(ids, id)
		}
	}
	return ids
}

func (p *plain) move(id, index, server int) api.Errno {
	if !p.known(id) {
		return least(when(index < 0 || index > 7 || server < 0 || server > 63, api.ErrArg), api.ErrNone)
	}
	s := p.all[id]
	twice := false
	for i, at := range s.Servers {
		twice = twice || i != index && at == server
	}
	err := least(
		when(index < 0 || index >= len(s.Servers) || server < 0 || server > 63, api.ErrArg),
		when(twice, api.ErrTwice),
		when(s.State == freed, api.ErrState))
	if err == api.OK {
		s.Servers[index] = server
	}
	return err
}

// plainRead is what s tells, if it tells one that may be in just those bytes.
func plainRead(s string) (*plain, bool) {
	left := []byte(s)
	next := func() int {
		n, size := binary.Varint(left)
		left = left[max(size, 0):]
		return int(n)
	}
	p := &plain{}
	for range min(next(), 5000) {
		one := api.Stripe{Id: len(p.all)}
		if len(left) > 0 {
			one.State, left = int(left[0]), left[1:]
		}
		one.Owner, one.Epoch, one.Length = next(), next(), next()
		for range min(next(), len(left)) {
			one.Servers = append(one.Servers, next())
		}
		if !mayBe(one) || one.State < 1 || one.State > 3 {
			return p, false
		}
		p.all = append(p.all, one)
	}
	return p, allText(p.all...) == s && p.notFreed() <= 256 && len(p.all) <= 4096
}

// someId is most often one that is known.
func someId(l *lot, p *plain) int {
	return l.below(len(p.all)+3) - 1
}

// someStripe is most often one that may be.
func someStripe(l *lot) api.Stripe {
	var on []int
	for range 2 + l.below(7) {
		n := l.below(64)
		for slices.Contains(on, n) {
			n = l.below(64)
		}
		on = append(on, n)
	}
	s := api.Stripe{Owner: l.below(4), Epoch: 1 + l.below(200), Length: l.below(mostBytes + 1), Servers: on}
	switch l.below(40) {
	case 0:
		s.Owner = 16 * (l.below(3) - 1)
	case 1:
		s.Epoch = l.below(3) - 1
	case 2:
		s.Length = mostBytes - 1 + l.below(3)
	case 3:
		s.Servers[0] = 65*l.below(2) - 1
	case 4:
		s.Servers[0] = s.Servers[1]
	case 5:
		s.Servers = s.Servers[:l.below(2)]
	}
	return s
}

// doBoth does one thing to both, and tells what it was, and what came of it; begins of ten things are Begins.
func doBoth(t *testing.T, l *lot, m *smap.Map, p *plain, begins int) string {
	t.Helper()
	if l.below(10) < begins {
		s := someStripe(l)
		id, err := p.begin(s)
		wantBegin(t, m, s.Owner, s.Epoch, s.Length, s.Servers, id, err)
		return fmt.Sprint("begin ", err)
	}
	id := someId(l, p)
	switch kind := l.below(20); {
	case kind < 7:
		owner := l.below(4)
		if p.known(id) && l.below(2) == 0 {
			owner = p.all[id].Owner
		}
		err := p.commit(id, owner)
		wantCommit(t, m, id, owner, err)
		return fmt.Sprint("commit ", err)
	case kind < 11:
		err := p.free(id)
		wantFree(t, m, id, err)
		return fmt.Sprint("free ", err)
	case kind < 12:
		owner := l.below(5)
		ids := p.drop(owner)
		wantDrop(t, m, owner, ids)
		return fmt.Sprint("drop ", len(ids) > 0)
	}
	index, server := l.below(10)-1, l.below(66)-1
	if p.known(id) && l.below(3) == 0 {
		server = p.all[id].Servers[l.below(len(p.all[id].Servers))]
	}
	err := p.move(id, index, server)
	wantMove(t, m, id, index, server, err)
	return fmt.Sprint("move ", err)
}

func TestAsThePlainOne(t *testing.T) {
	count := map[string]int{}
	for round := range 40 {
		l := lot(2400 + round)
		m, p := smap.New(), &plain{}
		for now := range 300 {
			count[doBoth(t, &l, m, p, 1+round%4)]++
			if l.below(10) == 0 {
				m = wantRead(t, m.Text())
			}
			if now%4 == 0 {
				wantAll(t, m, p.all)
			}
			if t.Failed() {
				t.Fatalf("round %d, step %d", round, now)
			}
		}
	}
	for what, outs := range map[string][]any{
		"begin":  {api.OK, api.ErrArg},
		"commit": {api.OK, api.ErrNone, api.ErrState},
		"free":   {api.OK, api.ErrNone, api.ErrState},
		"drop":   {true, false},
		"move":   {api.OK, api.ErrArg, api.ErrTwice, api.ErrNone, api.ErrState},
	} {
		for _, out := range outs {
			if sum := count[fmt.Sprint(what, " ", out)]; sum < 50 {
				t.Errorf("%s tells %v %d times: too seldom to tell", what, out, sum)
			}
		}
	}
}

// A map that is full most of the time, first of those that are not freed, then of all.
func TestAFullOneAsThePlainOne(t *testing.T) {
	l := lot(240)
	m, p := smap.New(), &plain{}
	full, spent := 0, 0
	for len(p.all) < mostKnown || spent < 100 {
		what := doBoth(t, &l, m, p, 8)
		if what == fmt.Sprint("begin ", api.ErrFull) {
			if len(p.all) < mostKnown {
				full++
			} else {
				spent++
			}
		}
		if l.below(100) == 0 {
			m = wantRead(t, m.Text())
		}
		if t.Failed() {
			t.Fatalf("at %d stripes", len(p.all))
		}
	}
	wantAll(t, m, p.all)
	if full < 100 {
		t.Errorf("it was full %d times: too seldom to tell", full)
	}
}

// Two maps to which the same is done tell the same.
func TestTheSameIsTold(t *testing.T) {
	var texts []string
	for range 2 {
		l := lot(24)
		m, p := smap.New(), &plain{}
		all := ""
		for range 300 {
			all += doBoth(t, &l, m, p, 3) + m.Text()
		}
		texts = append(texts, all)
	}
	if texts[0] != texts[1] {
		t.Error("two maps told two things")
	}
}

// Whatever bytes: they are refused, or what is read is written just so.
func TestReadAsThePlainOne(t *testing.T) {
	taken, refused := 0, 0
	look := func(s string) {
		t.Helper()
		p, ok := plainRead(s)
		if !ok {
			wantRefused(t, s)
			refused++
			return
		}
		m := wantRead(t, s)
		for _, one := range p.all {
			wantGet(t, m, one)
		}
		wantNoStripe(t, m, len(p.all))
		taken++
	}
	for _, s := range someTexts() {
		for at := range len(s) {
			for n := range 256 {
				look(s[:at] + one(n) + s[at+1:])
				look(s[:at] + one(n) + s[at:])
			}
			look(s[:at] + s[at+1:])
		}
	}
	for a := range 256 {
		look(one(a))
		for b := range 256 {
			look(one(a) + one(b))
		}
	}
	l := lot(24)
	for range 200000 {
		row := make([]byte, 8+l.below(3))
		for i := range row {
			row[i] = byte(l.below(10))
		}
		row[0] = 2
		row[5] = byte(2 * (len(row) - 6))
		look(string(row))
	}
	if taken < 1000 || refused < 1000 {
		t.Errorf("%d are taken, %d refused: too few to tell", taken, refused)
	}
}

package durable_test

import (
	"cmp"
	"slices"
	"strings"
	"testing"

	"hurdle/api"
	"hurdle/durable"
	"hurdle/sector"
)

// plain is what a durable acceptor should be, told in the plainest way: as a row of records, done anew each time.
type plain struct {
	sectors int
	area    int
	epoch   int
	records []string // of the area
	promise api.Ballot
	base    int
	votes   map[int]api.Vote
	cut     bool
}

func (p *plain) width() int { return (p.sectors - ahead) / 2 }

func (p *plain) room() int { return p.width() - len(strings.Join(p.records, ""))/wide }

func (p *plain) less(b api.Ballot) bool {
	return b.N < p.promise.N || b.N == p.promise.N && b.Node < p.promise.Node
}

func (p *plain) bad(b api.Ballot) bool {
	return b.N < 0 || b.N > lastN || b.Node < 0 || b.Node > 6 || p.less(b)
}

func (p *plain) list(from int) []api.Vote {
	var l []api.Vote
	for slot := max(0, from); slot < maxLog; slot++ {
		if v, ok := p.votes[slot]; ok {
			l = append(l, v)
		}
	}
	return l
}

func (p *plain) add(record string) api.Errno {
	if len(record) > p.room()*wide {
		return api.ErrFull
	}
	p.records = append(p.records, record)
	return api.OK
}

func (p *plain) doPromise(b api.Ballot, from int) ([]api.Vote, bool, api.Errno) {
	if p.cut {
		return nil, false, api.ErrState
	}
	if p.bad(b) || from < p.base {
		return nil, false, api.OK
	}
	if b != p.promise {
		if err := p.add(promised(p.epoch, len(p.records), b)); err != api.OK {
			return nil, false, err
		}
	}
	p.promise = b
	return p.list(from), true, api.OK
}

func (p *plain) doAccept(v api.Vote) (bool, api.Errno) {
	if p.cut {
		return false, api.ErrState
	}
	if p.bad(v.Ballot) || v.Slot < p.base || v.Slot >= maxLog || len(v.Value) > mostBody {
		return false, api.OK
	}
	old, ok := p.votes[v.Slot]
	if !ok || old != v || v.Ballot != p.promise {
		if err := p.add(voted(p.epoch, len(p.records), v)); err != api.OK {
			return false, err
		}
	}
	p.promise, p.votes[v.Slot] = v.Ballot, v
	return true, api.OK
}

func (p *plain) doTrim(upto int) api.Errno {
	if p.cut {
		return api.ErrState
	}
	upto = min(upto, maxLog)
	if upto <= p.base {
		return api.OK
	}
	if err := p.add(trimmed(p.epoch, len(p.records), upto)); err != api.OK {
		return err
	}
	p.base = upto
	for slot := range p.votes {
		if slot < upto {
			delete(p.votes, slot)
		}
	}
	return api.OK
}

func (p *plain) doCompact(n int) api.Errno {
	if p.cut {
		return api.ErrState
	}
	next := &plain{sectors: p.sectors, area: 1 - p.area, epoch: p.epoch + 1}
	var err api.Errno
	put := func(record string) { err = max(err, next.add(record)) }
	if p.base != 0 {
		put(trimmed(next.epoch, 0, p.base))
	}
	l := p.list(0)
	slices.SortFunc(l, func(a, b api.Vote) int {
		return cmp.Or(a.Ballot.N-b.Ballot.N, a.Ballot.Node-b.Ballot.Node, a.Slot-b.Slot)
	})
	for _, v := range l {
		put(voted(next.epoch, len(next.records), v))
	}
	if p.promise != bal(0, 0) {
		put(promised(next.epoch, len(next.records), p.promise))
	}
	if err != api.OK {
		return err
	}
	if n >= 0 && n < steps {
		p.cut = true
		return api.ErrState
	}
	p.area, p.epoch, p.records = next.area, next.epoch, next.records
	return api.OK
}

// text is what stands in the area.
func (p *plain) text() string {
	s := strings.Join(p.records, "")
	return s + zeros(p.width()*wide-len(s))
}

// check holds all that a and its device tell against p.
func (p *plain) check(t *testing.T, what string, d *sector.Device, a *durable.Durable) {
	t.Helper()
	wantState(t, what, a, p.promise, p.base, p.room(), p.list(0)...)
	if got := picture(t, d)[(ahead+p.area*p.width())*wide:][:p.width()*wide]; got != p.text() {
		t.Errorf("%s: the area is another one", what)
	}
	if !p.cut && len(d.Loose()) > 0 {
		t.Errorf("%s: sectors %v are loose", what, d.Loose())
	}
}

// someBallot is mostly one near the promise.
func (p *plain) someBallot(l *lot) api.Ballot {
	switch l.below(20) {
	case 0:
		return bal(p.promise.N, l.below(9)-1)
	case 1:
		return bal(l.below(4)-1, l.below(7))
	case 2, 3, 4:
		return bal(p.promise.N+1, l.below(7))
	case 5, 6:
		return bal(p.promise.N, min(6, p.promise.Node+1))
	}
	return p.promise
}

func (p *plain) someVote(l *lot) api.Vote {
	v := api.Vote{Slot: p.base + l.below(12) - 1, Ballot: p.someBallot(l), Value: many(l.below(150))}
	if old := p.list(0); len(old) > 0 && l.below(4) == 0 {
		v = old[l.below(len(old))]
	}
	return v
}

// step does one thing to both, and tells what came of it.
func (p *plain) step(t *testing.T, l *lot, a *durable.Durable) string {
	t.Helper()
	room := p.room()
	tell := func(what string, ok bool, err api.Errno) string {
		switch {
		case err == api.ErrFull:
			return what + " without room"
		case err == api.ErrState:
			return what + " cut"
		case !ok:
			return what + " refused"
		case room == p.room():
			return what + " without a change"
		}
		return what
	}
	switch n := l.below(30); {
	case n < 6:
		b, from := p.someBallot(l), p.base+l.below(8)-1
		votes, ok, err := p.doPromise(b, from)
		if v, k, e := a.Promise(b, from); !slices.Equal(v, votes) || k != ok || e != err {
			t.Errorf("Promise(%v, %d): %s, %v, %d, want %s, %v, %d", b, from, brief(v), k, e, brief(votes), ok, err)
		}
		return tell("Promise", ok, err)
	case n < 24:
		v := p.someVote(l)
		ok, err := p.doAccept(v)
		if k, e := a.Accept(v); k != ok || e != err {
			t.Errorf("Accept of %s: %v, %d, want %v, %d", brief([]api.Vote{v}), k, e, ok, err)
		}
		return tell("Accept", ok, err)
	case n < 27:
		upto := p.base + l.below(5) - 2
		err := p.doTrim(upto)
		wantTrim(t, a, upto, err)
		return tell("Trim", true, err)
	default:
		n := l.below(12) - 2
		was := p.epoch
		err := p.doCompact(n)
		wantCompact(t, a, n, err)
		if p.epoch != was {
			return "Compact"
		}
		return tell("Compact", true, err)
	}
}

func TestAgainstPlain(t *testing.T) {
	l := lot(1)
	came := map[string]int{}
	for range 60 {
		sectors := ahead + 2 + l.below(120)
		d := sector.New(sectors)
		p := &plain{sectors: sectors, votes: map[int]api.Vote{}}
		a := opened(t, d)
		for range 150 {
			what := p.step(t, &l, a)
			came[what]++
			p.check(t, what, d, a)
			if l.below(10) == 0 || p.cut && l.below(3) == 0 {
				// Whatever stays of what is loose: what was told is there.
				d.Crash(uint64(l.below(1<<30))<<20^uint64(l.below(1<<30)), 0)
				p.cut = false
				a = opened(t, d)
				p.check(t, "crash", d, a)
				came["crash"]++
			}
			if t.Failed() {
				t.Fatal("behind " + what)
			}
		}
	}
	for _, what := range []string{"Promise", "Promise refused", "Promise without a change", "Promise without room",
		"Promise cut", "Accept", "Accept refused", "Accept without a change", "Accept without room", "Accept cut",
		"Trim", "Trim without a change", "Trim without room", "Trim cut", "Compact", "Compact without room", "Compact cut",
		"crash"} {
		if came[what] < 20 {
			t.Errorf("%s came %d times", what, came[what])
		}
	}
}

// Whatever is spoilt on a device: what is left is read, and it goes on from there.
func TestSpoilt(t *testing.T) {
	l := lot(2)
	for range 400 {
		d := sector.New(ahead + 2 + l.below(40))
		a := opened(t, d)
		p := &plain{sectors: d.Sectors(), votes: map[int]api.Vote{}}
		for range 20 {
			p.step(t, &l, a)
			if p.cut {
				a, p.cut = opened(t, d), false
			}
		}
		for range 1 + l.below(3) {
			at := l.below(d.Sectors())
			s, _ := d.Read(at, 1)
			lay(t, d, at, spoilt(s, l.below(wide)))
		}
		b := opened(t, d)
		votes := b.Votes(0)
		if err := b.Compact(all); err != api.OK && err != api.ErrFull {
			t.Errorf("Compact: %d", err)
		}
		wantState(t, "spoilt", opened(t, d), b.Promised(), b.Base(), b.Room(), votes...)
	}
}

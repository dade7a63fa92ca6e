package acceptor_test

import (
	"fmt"
	"math"
	"slices"
	"strings"
	"testing"
	"unsafe"

	"hurdle/acceptor"
	"hurdle/api"
)

const (
	lastN    = 1<<31 - 1
	maxLog   = 1024
	mostBody = 4096
)

func bal(n, node int) api.Ballot { return api.Ballot{N: n, Node: node} }

func vote(slot, n, node int, value string) api.Vote {
	return api.Vote{Slot: slot, Ballot: bal(n, node), Value: value}
}

// lot gives numbers of many values, the same ones each time.
type lot uint64

func (l *lot) below(n int) int {
	*l = *l*6364136223846793005 + 1442695040888963407
	return int(uint64(*l)>>33) % n
}

// badBallots are those that nobody may lead by.
func badBallots() []api.Ballot {
	return []api.Ballot{bal(-1, 0), bal(-1, 6), bal(0, -1), bal(5, -1), bal(0, 7), bal(9, 7), bal(lastN, 7),
		bal(lastN+1, 0), bal(1<<32+5, 0), bal(5, 1<<32), bal(math.MinInt, 0), bal(math.MaxInt, 0),
		bal(5, math.MinInt), bal(5, math.MaxInt)}
}

// brief tells votes without their long values.
func brief(l []api.Vote) string {
	var parts []string
	for _, v := range l {
		if len(v.Value) > 20 {
			v.Value = fmt.Sprint(len(v.Value), " bytes")
		}
		parts = append(parts, fmt.Sprintf("%d by %d.%d: %q", v.Slot, v.Ballot.N, v.Ballot.Node, v.Value))
	}
	return "[" + strings.Join(parts, ", ") + "]"
}

func wantPromise(t *testing.T, a *acceptor.Acceptor, b api.Ballot, from int, want ...api.Vote) {
	t.Helper()
	got, ok := a.Promise(b, from)
	if !ok || !slices.Equal(got, want) {
		t.Errorf("Promise(%v, %d): %s, %v, want %s, true", b, from, brief(got), ok, brief(want))
	}
	if p := a.Promised(); p != b {
		t.Errorf("%v is promised, behind Promise of %v", p, b)
	}
}

func wantNoPromise(t *testing.T, a *acceptor.Acceptor, b api.Ballot, from int) {
	t.Helper()
	wantSame(t, a, func() {
		if got, ok := a.Promise(b, from); ok || len(got) > 0 {
			t.Errorf("Promise(%v, %d): %s, %v, want nothing and false", b, from, brief(got), ok)
		}
	})
}

func wantAccept(t *testing.T, a *acceptor.Acceptor, all ...api.Vote) {
	t.Helper()
	for _, v := range all {
		if !a.Accept(v) {
			t.Errorf("Accept of %s: false, want true", brief([]api.Vote{v}))
		}
		if p := a.Promised(); p != v.Ballot {
			t.Errorf("%v is promised, behind Accept of %s", p, brief([]api.Vote{v}))
		}
	}
}

func wantNoAccept(t *testing.T, a *acceptor.Acceptor, v api.Vote) {
	t.Helper()
	wantSame(t, a, func() {
		if a.Accept(v) {
			t.Errorf("Accept of %s: true, want false", brief([]api.Vote{v}))
		}
	})
}

func wantTrim(t *testing.T, a *acceptor.Acceptor, upto, gone, base int) {
	t.Helper()
	p := a.Promised()
	if got := a.Trim(upto); got != gone {
		t.Errorf("Trim(%d): %d, want %d", upto, got, gone)
	}
	if got := a.Base(); got != base {
		t.Errorf("base %d behind Trim(%d), want %d", got, upto, base)
	}
	if got := a.Promised(); got != p {
		t.Errorf("%v is promised behind Trim(%d), ahead of it %v", got, upto, p)
	}
}

func wantVotes(t *testing.T, a *acceptor.Acceptor, from int, want ...api.Vote) {
	t.Helper()
	if got := a.Votes(from); !slices.Equal(got, want) {
		t.Errorf("Votes(%d): %s, want %s", from, brief(got), brief(want))
	}
}

// wantSame is for what changes nothing.
func wantSame(t *testing.T, a *acceptor.Acceptor, do func()) {
	t.Helper()
	p, base, votes := a.Promised(), a.Base(), a.Votes(math.MinInt)
	do()
	if a.Promised() != p || a.Base() != base || !slices.Equal(a.Votes(math.MinInt), votes) {
		t.Errorf("%v, base %d, %s is there, ahead it was %v, base %d, %s",
			a.Promised(), a.Base(), brief(a.Votes(math.MinInt)), p, base, brief(votes))
	}
}

func TestExample(t *testing.T) {
	a := acceptor.New()
	wantPromise(t, a, bal(2, 0), 0)
	wantNoAccept(t, a, vote(0, 1, 0, "x"))
}

func TestNew(t *testing.T) {
	a := acceptor.New()
	if a == nil {
		t.Fatal("nothing is there")
	}
	if p := a.Promised(); p != bal(0, 0) {
		t.Errorf("%v is promised at first", p)
	}
	if b := a.Base(); b != 0 {
		t.Errorf("the base is %d at first", b)
	}
	wantVotes(t, a, 0)
	wantVotes(t, a, math.MinInt)
}

func TestAcceptorsAreApart(t *testing.T) {
	a, b := acceptor.New(), acceptor.New()
	wantAccept(t, a, vote(3, 2, 1, "x"))
	wantTrim(t, a, 2, 0, 2)
	if b.Promised() != bal(0, 0) || b.Base() != 0 {
		t.Errorf("the other one has promised %v, base %d", b.Promised(), b.Base())
	}
	wantVotes(t, b, 0)
}

func TestPromise(t *testing.T) {
	a := acceptor.New()
	wantPromise(t, a, bal(0, 0), 0) // not less than the zero one
	wantPromise(t, a, bal(0, 1), 0)
	wantNoPromise(t, a, bal(0, 0), 0)
	wantPromise(t, a, bal(2, 3), 0)
	wantPromise(t, a, bal(2, 3), 0) // the same one again
	wantNoPromise(t, a, bal(2, 2), 0)
	wantNoPromise(t, a, bal(1, 6), 0)
	wantPromise(t, a, bal(2, 4), 0)
	wantPromise(t, a, bal(3, 0), 0)
	wantNoPromise(t, a, bal(2, 6), 0)
	wantPromise(t, a, bal(lastN, 0), 0)
	wantPromise(t, a, bal(lastN, 6), 0)
	wantPromise(t, a, bal(lastN, 6), 0)
	wantNoPromise(t, a, bal(lastN, 5), 0)
	wantNoPromise(t, a, bal(0, 0), 0)
}

func TestPromiseTellsVotes(t *testing.T) {
	a := acceptor.New()
	three, five, nine := vote(3, 1, 0, "three"), vote(5, 1, 0, "five"), vote(9, 2, 0, "")
	wantAccept(t, a, three, five, nine)
	wantPromise(t, a, bal(2, 0), 0, three, five, nine)
	wantPromise(t, a, bal(2, 1), 3, three, five, nine)
	wantPromise(t, a, bal(2, 1), 4, five, nine)
	wantPromise(t, a, bal(3, 0), 5, five, nine)
	wantPromise(t, a, bal(3, 0), 9, nine)
	wantPromise(t, a, bal(3, 0), 10)
	wantPromise(t, a, bal(4, 0), maxLog-1)
	wantPromise(t, a, bal(4, 1), maxLog)
	wantPromise(t, a, bal(4, 2), maxLog+1)
	wantPromise(t, a, bal(4, 3), math.MaxInt)
}

func TestPromiseRefusesBallots(t *testing.T) {
	for _, b := range badBallots() {
		a := acceptor.New()
		wantNoPromise(t, a, b, 0)
		wantAccept(t, a, vote(1, 0, 0, "x"))
		wantNoPromise(t, a, b, 0)
		wantPromise(t, a, bal(0, 0), 0, vote(1, 0, 0, "x"))
	}
}

func TestPromiseRefusesSlotsBelowTheBase(t *testing.T) {
	a := acceptor.New()
	for _, from := range []int{-1, -5, math.MinInt, math.MinInt + 1} {
		wantNoPromise(t, a, bal(1, 0), from)
	}
	four, seven := vote(4, 1, 0, "four"), vote(7, 1, 0, "seven")
	wantAccept(t, a, four, seven)
	wantTrim(t, a, 5, 1, 5)
	for _, from := range []int{4, 3, 0, -1, math.MinInt} {
		wantNoPromise(t, a, bal(2, 0), from)
		wantNoPromise(t, a, bal(1, 0), from)
	}
	wantPromise(t, a, bal(2, 0), 5, seven)
	wantPromise(t, a, bal(2, 0), 8)
	wantTrim(t, a, maxLog, 1, maxLog)
	wantNoPromise(t, a, bal(3, 0), maxLog-1)
	wantPromise(t, a, bal(3, 0), maxLog)
}

func TestAccept(t *testing.T) {
	a := acceptor.New()
	zero := vote(0, 0, 0, "zero") // by the ballot that is promised at first
	wantAccept(t, a, zero)
	wantVotes(t, a, 0, zero)
	last := vote(maxLog-1, 1, 6, "last")
	wantAccept(t, a, last)
	wantVotes(t, a, 0, zero, last)
	mid := vote(500, 2, 0, "mid")
	wantAccept(t, a, mid)
	wantVotes(t, a, 0, zero, mid, last)
	wantNoAccept(t, a, vote(7, 1, 6, "late"))
	wantNoAccept(t, a, vote(500, 1, 6, "late"))
	wantAccept(t, a, vote(1, lastN, 6, ""))
	wantVotes(t, a, 0, zero, vote(1, lastN, 6, ""), mid, last)
}

// Accept of a greater ballot promises it, and of a lesser one than was promised does nothing.
func TestAcceptPromises(t *testing.T) {
	a := acceptor.New()
	wantPromise(t, a, bal(2, 3), 0)
	wantNoAccept(t, a, vote(0, 2, 2, "x"))
	wantNoAccept(t, a, vote(0, 1, 6, "x"))
	wantNoAccept(t, a, vote(0, 0, 0, "x"))
	wantAccept(t, a, vote(0, 2, 3, "x"))
	wantAccept(t, a, vote(1, 2, 4, "y"))
	wantNoPromise(t, a, bal(2, 3), 0)
	wantNoAccept(t, a, vote(2, 2, 3, "z"))
	wantAccept(t, a, vote(1, 3, 0, "z"))
	wantPromise(t, a, bal(3, 0), 0, vote(0, 2, 3, "x"), vote(1, 3, 0, "z"))
}

func TestAcceptReplaces(t *testing.T) {
	a := acceptor.New()
	wantAccept(t, a, vote(2, 1, 0, "a"), vote(4, 1, 0, "b"), vote(6, 1, 0, "c"))
	wantAccept(t, a, vote(4, 1, 0, "other")) // by the same ballot
	wantVotes(t, a, 0, vote(2, 1, 0, "a"), vote(4, 1, 0, "other"), vote(6, 1, 0, "c"))
	wantAccept(t, a, vote(2, 1, 1, "new"), vote(6, 3, 0, ""))
	wantVotes(t, a, 0, vote(2, 1, 1, "new"), vote(4, 1, 0, "other"), vote(6, 3, 0, ""))
	wantAccept(t, a, vote(6, 3, 0, "")) // the same vote again
	wantVotes(t, a, 0, vote(2, 1, 1, "new"), vote(4, 1, 0, "other"), vote(6, 3, 0, ""))
}

func TestAcceptRefusesBallots(t *testing.T) {
	for _, b := range badBallots() {
		a := acceptor.New()
		wantNoAccept(t, a, api.Vote{Slot: 1, Ballot: b, Value: "x"})
		wantAccept(t, a, vote(1, 0, 0, "y"))
		wantNoAccept(t, a, api.Vote{Slot: 1, Ballot: b, Value: "x"})
		wantVotes(t, a, 0, vote(1, 0, 0, "y"))
	}
}

func TestAcceptRefusesSlots(t *testing.T) {
	a := acceptor.New()
	beyond := []int{-1, -maxLog, maxLog, maxLog + 1, 1 << 32, 1<<32 + 3, math.MinInt, math.MinInt + 1, math.MaxInt}
	for _, slot := range beyond {
		wantNoAccept(t, a, vote(slot, 1, 0, "x"))
	}
	wantTrim(t, a, 5, 0, 5)
	for _, slot := range append(beyond, 0, 3, 4) {
		wantNoAccept(t, a, vote(slot, 1, 0, "x"))
	}
	wantAccept(t, a, vote(5, 1, 0, "x"), vote(maxLog-1, 1, 0, "y"))
	wantTrim(t, a, maxLog-1, 1, maxLog-1)
	wantNoAccept(t, a, vote(maxLog-2, 1, 0, "x"))
	wantAccept(t, a, vote(maxLog-1, 1, 0, "z"))
	wantTrim(t, a, maxLog, 1, maxLog)
	for _, slot := range append(beyond, 0, maxLog-1) {
		wantNoAccept(t, a, vote(slot, 2, 0, "x"))
	}
}

func TestAcceptOfLongValues(t *testing.T) {
	a := acceptor.New()
	long := strings.Repeat("v", mostBody)
	wantAccept(t, a, vote(1, 1, 0, ""), vote(2, 1, 0, long[1:]), vote(3, 1, 0, long))
	wantNoAccept(t, a, vote(4, 2, 0, long+"v"))
	wantNoAccept(t, a, vote(3, 2, 0, long+long))
	wantNoAccept(t, a, vote(1, 1, 0, strings.Repeat("v", 1<<20)))
	wantVotes(t, a, 0, vote(1, 1, 0, ""), vote(2, 1, 0, long[1:]), vote(3, 1, 0, long))
}

// Bytes of a value are counted, not its runes, and any byte may be.
func TestAcceptOfAnyBytes(t *testing.T) {
	a := acceptor.New()
	wide := strings.Repeat("\u20ac", mostBody/3+1)
	wantNoAccept(t, a, vote(0, 1, 0, wide))
	odd := "\x00\xff\xfe\n\x80" + wide[:20]
	wantAccept(t, a, vote(0, 1, 0, odd))
	wantVotes(t, a, 0, vote(0, 1, 0, odd))
}

func TestAcceptOfAllSlots(t *testing.T) {
	a := acceptor.New()
	var want []api.Vote
	for slot := range maxLog {
		want = append(want, vote(slot, 1, 2, fmt.Sprint("value ", slot)))
	}
	for i := range maxLog {
		wantAccept(t, a, want[i*389%maxLog]) // each of them, in no order
	}
	wantVotes(t, a, 0, want...)
	wantPromise(t, a, bal(9, 0), 1, want[1:]...)
	for _, from := range []int{0, 1, 511, 1022, 1023} {
		wantVotes(t, a, from, want[from:]...)
	}
	for upto := range maxLog {
		wantTrim(t, a, upto+1, 1, upto+1)
		wantVotes(t, a, 0, want[upto+1:]...)
	}
}

func TestTrim(t *testing.T) {
	a := acceptor.New()
	two, three, five, eight := vote(2, 1, 0, "two"), vote(3, 1, 0, "three"), vote(5, 1, 0, "five"), vote(8, 1, 0, "eight")
	wantAccept(t, a, eight, two, five, three)
	wantTrim(t, a, 0, 0, 0)
	wantVotes(t, a, 0, two, three, five, eight)
	wantTrim(t, a, 2, 0, 2)
	wantVotes(t, a, 0, two, three, five, eight)
	wantTrim(t, a, 4, 2, 4)
	wantVotes(t, a, 0, five, eight)
	wantTrim(t, a, 4, 0, 4)
	wantTrim(t, a, 3, 0, 4) // the base does not go back
	wantTrim(t, a, 0, 0, 4)
	wantTrim(t, a, -1, 0, 4)
	wantTrim(t, a, math.MinInt, 0, 4)
	wantVotes(t, a, 0, five, eight)
	wantTrim(t, a, 5, 0, 5)
	wantTrim(t, a, 6, 1, 6)
	wantVotes(t, a, 0, eight)
	wantTrim(t, a, 1000, 1, 1000)
	wantVotes(t, a, 0)
	wantAccept(t, a, vote(1000, 1, 0, "more"))
	wantVotes(t, a, 0, vote(1000, 1, 0, "more"))
}

// Whatever is beyond MaxLog is as that.
func TestTrimAtTheEnd(t *testing.T) {
	for _, upto := range []int{maxLog, maxLog + 1, 1 << 32, math.MaxInt} {
		a := acceptor.New()
		wantAccept(t, a, vote(0, 1, 0, "first"), vote(maxLog-1, 1, 0, "last"))
		wantTrim(t, a, upto, 2, maxLog)
		wantVotes(t, a, 0)
		wantTrim(t, a, upto, 0, maxLog)
		wantTrim(t, a, 5, 0, maxLog)
	}
	for _, upto := range []int{-1, math.MinInt} {
		a := acceptor.New()
		wantAccept(t, a, vote(0, 1, 0, "first"))
		wantTrim(t, a, upto, 0, 0)
		wantVotes(t, a, 0, vote(0, 1, 0, "first"))
	}
	wantTrim(t, acceptor.New(), math.MaxInt, 0, maxLog)
}

func TestVotes(t *testing.T) {
	a := acceptor.New()
	first, mid, last := vote(0, 1, 0, "first"), vote(7, 1, 0, "mid"), vote(maxLog-1, 1, 0, "last")
	wantAccept(t, a, last, first, mid)
	for _, from := range []int{math.MinInt, -1, 0} {
		wantVotes(t, a, from, first, mid, last)
	}
	wantVotes(t, a, 1, mid, last)
	wantVotes(t, a, 7, mid, last)
	wantVotes(t, a, 8, last)
	wantVotes(t, a, maxLog-1, last)
	for _, from := range []int{maxLog, maxLog + 1, 1 << 32, math.MaxInt} {
		wantVotes(t, a, from)
	}
	wantTrim(t, a, 5, 1, 5)
	wantVotes(t, a, 2, mid, last) // below the base too
	wantVotes(t, a, math.MinInt, mid, last)
}

func TestNil(t *testing.T) {
	var a *acceptor.Acceptor
	if l, ok := a.Promise(bal(1, 0), 0); ok || len(l) > 0 {
		t.Errorf("Promise of nil: %v, %v", l, ok)
	}
	if a.Accept(vote(0, 1, 0, "x")) {
		t.Error("nil accepts")
	}
	if n := a.Trim(5); n != 0 {
		t.Errorf("Trim of nil: %d", n)
	}
	if p := a.Promised(); p != bal(0, 0) {
		t.Errorf("nil has promised %v", p)
	}
	if l := a.Votes(0); len(l) > 0 {
		t.Errorf("Votes of nil: %v", l)
	}
	if b := a.Base(); b != 0 {
		t.Errorf("the base of nil is %d", b)
	}
}

func shares(a, b string) bool {
	return len(a) > 0 && len(b) > 0 && unsafe.StringData(a) == unsafe.StringData(b)
}

func TestAnswersAreNewMemory(t *testing.T) {
	a := acceptor.New()
	v := vote(3, 1, 0, strings.Clone("a value"))
	wantAccept(t, a, v, vote(4, 1, 0, "next"))
	promised, _ := a.Promise(bal(2, 0), 0)
	told, again := a.Votes(0), a.Votes(0)
	for i, text := range []string{v.Value, promised[0].Value, told[0].Value} {
		for _, other := range []string{promised[0].Value, told[0].Value, again[0].Value}[i:] {
			if shares(text, other) {
				t.Errorf("two share the text of the value: %d", i)
			}
		}
	}
	for _, l := range [][]api.Vote{promised, told, again} {
		l[0] = vote(9, 9, 9, "spoilt")
		_ = append(l[:1], vote(9, 9, 9, "spoilt"))
	}
	wantVotes(t, a, 0, v, vote(4, 1, 0, "next"))
}

// What was answered stays as it is, whatever is done then.
func TestAnswersStay(t *testing.T) {
	a := acceptor.New()
	three, four := vote(3, 1, 0, "three"), vote(4, 1, 0, "four")
	wantAccept(t, a, three, four)
	told := a.Votes(0)
	promised, _ := a.Promise(bal(2, 0), 0)
	wantAccept(t, a, vote(3, 2, 0, "other"), vote(0, 2, 0, "zero"))
	wantTrim(t, a, 4, 2, 4)
	wantAccept(t, a, vote(5, 2, 0, "five"), vote(4, 2, 0, "new"))
	for _, l := range [][]api.Vote{told, promised} {
		if !slices.Equal(l, []api.Vote{three, four}) {
			t.Errorf("what was answered is %s now", brief(l))
		}
	}
}

// plain is what an acceptor does, by the words of the chapter.
type plain struct {
	promise api.Ballot
	base    int
	votes   map[int]api.Vote
}

func (p *plain) takes(b api.Ballot) bool {
	valid := b.N >= 0 && b.N <= lastN && b.Node >= 0 && b.Node <= 6
	less := b.N < p.promise.N || b.N == p.promise.N && b.Node < p.promise.Node
	return valid && !less
}

func (p *plain) told(from int) []api.Vote {
	var all []api.Vote
	for slot := range maxLog {
		if v, ok := p.votes[slot]; ok && slot >= from {
			all = append(all, v)
		}
	}
	return all
}

func (p *plain) promised(b api.Ballot, from int) ([]api.Vote, bool) {
	if !p.takes(b) || from < p.base {
		return nil, false
	}
	p.promise = b
	return p.told(from), true
}

func (p *plain) accepted(v api.Vote) bool {
	if !p.takes(v.Ballot) || v.Slot < p.base || v.Slot >= maxLog || len(v.Value) > mostBody {
		return false
	}
	p.promise = v.Ballot
	p.votes[v.Slot] = v
	return true
}

func (p *plain) trimmed(upto int) int {
	if upto > maxLog {
		upto = maxLog
	}
	gone := 0
	for slot := range p.votes {
		if slot < upto {
			delete(p.votes, slot)
			gone++
		}
	}
	if upto > p.base {
		p.base = upto
	}
	return gone
}

// near is a ballot about the one that is promised, now and then one that may not be.
func near(l *lot, b api.Ballot) api.Ballot {
	if l.below(12) == 0 {
		all := badBallots()
		return all[l.below(len(all))]
	}
	if l.below(2) == 0 {
		return b
	}
	return bal(max(b.N+l.below(4)-2, 0), l.below(7))
}

// step does one thing to both, and tells what it was.
func step(t *testing.T, l *lot, a *acceptor.Acceptor, p *plain) string {
	t.Helper()
	slot := p.base + l.below(40) - 4
	if l.below(10) == 0 {
		slot = maxLog + l.below(8) - 5
	}
	b := near(l, p.promise)
	switch l.below(8) {
	case 0:
		upto := p.base + l.below(12) - 4
		got, want := a.Trim(upto), p.trimmed(upto)
		if got != want {
			t.Errorf("Trim(%d): %d, want %d", upto, got, want)
		}
		return fmt.Sprint("trim ", want > 0)
	case 1, 2:
		got, ok := a.Promise(b, slot)
		want, may := p.promised(b, slot)
		if ok != may || !slices.Equal(got, want) {
			t.Errorf("Promise(%v, %d): %s, %v, want %s, %v", b, slot, brief(got), ok, brief(want), may)
		}
		return fmt.Sprint("promise ", may)
	}
	v := api.Vote{Slot: slot, Ballot: b, Value: strings.Repeat("v", l.below(9))}
	if l.below(20) == 0 {
		v.Value = strings.Repeat("v", mostBody+l.below(2))
	}
	got, want := a.Accept(v), p.accepted(v)
	if got != want {
		t.Errorf("Accept of %s: %v, want %v", brief([]api.Vote{v}), got, want)
	}
	return fmt.Sprint("accept ", want)
}

func TestAgainstPlain(t *testing.T) {
	count := map[string]int{}
	for round := range 20 {
		l := lot(170 + round)
		a, p := acceptor.New(), &plain{votes: map[int]api.Vote{}}
		for now := range 1000 {
			count[step(t, &l, a, p)]++
			if a.Promised() != p.promise || a.Base() != p.base {
				t.Errorf("%v, base %d, want %v, base %d", a.Promised(), a.Base(), p.promise, p.base)
			}
			if now%10 == 0 {
				wantVotes(t, a, math.MinInt, p.told(math.MinInt)...)
			}
			from := p.base + l.below(60) - 10
			wantVotes(t, a, from, p.told(from)...)
			if t.Failed() {
				t.Fatalf("round %d, step %d", round, now)
			}
		}
	}
	for _, what := range []string{"trim true", "trim false", "promise true", "promise false", "accept true", "accept false"} {
		if count[what] < 400 {
			t.Errorf("%s %d times: too seldom to tell", what, count[what])
		}
	}
}

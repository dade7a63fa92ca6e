package replica_test

import (
	"fmt"
	"slices"
	"strings"
	"testing"

	"hurdle/api"
	"hurdle/replica"
)

// lot gives numbers of many values, the same ones each time.
type lot uint64

func (l *lot) below(n int) int {
	*l = *l*6364136223846793005 + 1442695040888963407
	return int(uint64(*l)>>33) % n
}

// heard is a vote, and whose it is.
type heard struct {
	from int
	vote api.Vote
}

// plain is what a replica does, by the words of the chapters and nothing of the layers below: it keeps all that came, and asks that anew each time.
type plain struct {
	n, me int

	promise api.Ballot
	base    int
	votes   map[int]api.Vote

	ballot        api.Ballot
	asks, leads   bool
	asked, before int // the first slot that was asked for; how many were proposed beyond those that counted
	promised      []int
	counted       []api.Vote

	learnt int // the learner's base
	heard  []heard
	told   map[int]string
}

func newPlain(n, me int) *plain {
	return &plain{n: n, me: me, votes: map[int]api.Vote{}, told: map[int]string{}}
}

func valid(b api.Ballot) bool {
	return b.N >= 0 && b.N <= lastN && b.Node >= 0 && b.Node < mostNodes
}

func greater(a, b api.Ballot) bool {
	return a.N > b.N || a.N == b.N && a.Node > b.Node
}

func (p *plain) next() int {
	for next := p.learnt; ; next++ {
		if _, is := p.told[next]; !is {
			return next
		}
	}
}

func (p *plain) log() []string {
	var all []string
	for slot := p.learnt; slot < p.next(); slot++ {
		all = append(all, p.told[slot])
	}
	return all
}

// end is one beyond the last slot that a vote counted for.
func (p *plain) end() int {
	end := p.asked
	for _, v := range p.counted {
		end = max(end, v.Slot+1)
	}
	return end
}

func (p *plain) lead() []api.Note {
	above := p.promise
	if greater(p.ballot, above) {
		above = p.ballot
	}
	if p.next() == maxLog || above.N == lastN {
		return nil
	}
	p.ballot, p.asks, p.leads = bal(above.N+1, p.me), true, false
	p.asked, p.before, p.promised, p.counted = p.next(), 0, nil, nil
	p.promise = p.ballot
	return prepares(p.n, p.me, p.asked, p.ballot)
}

func (p *plain) propose(value string) ([]api.Note, api.Errno) {
	slot := p.end() + p.before
	switch {
	case len(value) > mostBody:
		return nil, api.ErrSize
	case slot == maxLog:
		return nil, api.ErrFull
	case !p.leads:
		return nil, api.ErrState
	}
	p.before++
	return accepts(p.n, p.me, api.Vote{Slot: slot, Ballot: p.ballot, Value: value}), api.OK
}

func (p *plain) step(b api.Ballot) {
	if valid(b) && greater(b, p.ballot) {
		p.ballot, p.asks, p.leads = b, false, false
	}
}

func (p *plain) take(x api.Note) []api.Note {
	if x.To != p.me || x.From < 0 || x.From >= p.n {
		return nil
	}
	switch {
	case x.Kind == api.NotePrepare:
		return p.prepare(x)
	case x.Kind == api.NotePromise:
		return p.elect(x)
	case x.Kind == api.NoteAccept && len(x.Votes) == 1:
		return p.accept(x.Votes[0])
	case x.Kind == api.NoteVoted && len(x.Votes) == 1:
		p.hear(x.From, x.Votes[0])
	case x.Kind == api.NoteAsk:
		return p.ask(x)
	case x.Kind == api.NoteTell:
		for _, v := range x.Votes {
			p.tell(v.Slot, v.Value)
		}
	}
	return nil
}

func (p *plain) prepare(x api.Note) []api.Note {
	p.step(x.Ballot)
	if x.Slot < p.base || x.Slot >= maxLog || !valid(x.Ballot) || greater(p.promise, x.Ballot) {
		return nil
	}
	p.promise = x.Ballot
	var l []api.Vote
	for slot := x.Slot; slot < maxLog; slot++ {
		if v, is := p.votes[slot]; is {
			l = append(l, v)
		}
	}
	return []api.Note{promise(p.me, x.From, x.Ballot, l...)}
}

func (p *plain) elect(x api.Note) []api.Note {
	if !p.asks || x.Ballot != p.ballot || slices.Contains(p.promised, x.From) {
		return nil
	}
	p.promised = append(p.promised, x.From)
	for _, v := range x.Votes {
		if v.Slot >= p.asked && v.Slot < maxLog && valid(v.Ballot) && len(v.Value) <= mostBody {
			p.counted = append(p.counted, v)
		}
	}
	if 2*len(p.promised) <= p.n {
		return nil
	}
	p.asks, p.leads = false, true
	var all []api.Note
	for slot := p.asked; slot < p.end(); slot++ {
		all = append(all, accepts(p.n, p.me, api.Vote{Slot: slot, Ballot: p.ballot, Value: p.picked(slot)})...)
	}
	return all
}

// picked is the value of the slot's first vote by the greatest ballot.
func (p *plain) picked(slot int) string {
	best, found := api.Vote{}, false
	for _, v := range p.counted {
		if v.Slot == slot && (!found || greater(v.Ballot, best.Ballot)) {
			best, found = v, true
		}
	}
	return best.Value
}

func (p *plain) accept(v api.Vote) []api.Note {
	p.step(v.Ballot)
	if !valid(v.Ballot) || greater(p.promise, v.Ballot) || v.Slot < p.base || v.Slot >= maxLog || len(v.Value) > mostBody {
		return nil
	}
	p.promise = v.Ballot
	p.votes[v.Slot] = v
	return voteds(p.n, p.me, v)
}

func (p *plain) hear(from int, v api.Vote) {
	if !valid(v.Ballot) {
		return
	}
	p.heard = append(p.heard, heard{from, v})
	sum := 0
	for node := range p.n {
		best, found := api.Vote{}, false
		for _, h := range p.heard {
			if h.from == node && h.vote.Slot == v.Slot && len(h.vote.Value) <= mostBody && (!found || greater(h.vote.Ballot, best.Ballot)) {
				best, found = h.vote, true
			}
		}
		if found && best == v {
			sum++
		}
	}
	if 2*sum > p.n {
		p.tell(v.Slot, v.Value)
	}
}

func (p *plain) tell(slot int, value string) {
	if _, is := p.told[slot]; !is && slot >= p.learnt && slot < maxLog && len(value) <= mostBody {
		p.told[slot] = value
	}
}

func (p *plain) ask(x api.Note) []api.Note {
	var l []api.Vote
	for slot := x.Slot; slot >= p.learnt && slot < p.next() && len(l) < mostTold; slot++ {
		l = append(l, fact(slot, p.told[slot]))
	}
	if l == nil {
		return nil
	}
	return []api.Note{tell(p.me, x.From, l...)}
}

func (p *plain) trim(upto int) int {
	was := p.learnt
	p.learnt = max(was, min(upto, p.next()))
	p.base = max(p.base, p.learnt)
	for slot := range p.base {
		delete(p.votes, slot)
		delete(p.told, slot)
	}
	return p.learnt - was
}

func (p *plain) crash() {
	was := *p
	*p = *newPlain(was.n, was.me)
	p.promise, p.base, p.votes = was.promise, was.base, was.votes
	p.learnt = p.base
}

// text is a value of few, so that nodes often agree, now and then one of the longest or longer.
func text(l *lot) string {
	if l.below(60) == 0 {
		return strings.Repeat("v", mostBody+l.below(2))
	}
	return fmt.Sprint("value ", l.below(2))
}

// near is a slot about those that are told next, now and then one of the last or none at all.
func near(l *lot, p *plain) int {
	switch l.below(40) {
	case 0:
		all := badSlots()
		return all[l.below(len(all))]
	case 1:
		return maxLog - 3 + l.below(6)
	}
	return p.next() + l.below(8) - 3
}

// about is a ballot near those that are there, now and then one that may not be.
func about(l *lot, p *plain) api.Ballot {
	switch i := l.below(60); {
	case i == 0:
		all := badBallots()
		return all[l.below(len(all))]
	case i < 40:
		return p.ballot
	case i < 55:
		return p.promise
	}
	return bal(min(max(0, p.promise.N+l.below(4)-2), lastN), l.below(p.n+1))
}

func someVote(l *lot, p *plain) api.Vote {
	return api.Vote{Slot: near(l, p), Ballot: about(l, p), Value: text(l)}
}

// someNote is one of any kind, mostly to this node and from one of the group, with all fields set.
func someNote(l *lot, p *plain) api.Note {
	x := api.Note{Kind: l.below(6) + 1, From: l.below(p.n), To: p.me, Slot: near(l, p), Ballot: about(l, p)}
	size := l.below(3)
	if x.Kind == api.NoteAccept || x.Kind == api.NoteVoted {
		size = 1 + l.below(10)/9
	}
	if l.below(3) == 0 {
		x.Kind = api.NoteVoted
	}
	for range size {
		x.Votes = append(x.Votes, someVote(l, p))
	}
	bad := badNodes(p.n)
	switch l.below(100) {
	case 0:
		x.From = bad[l.below(len(bad))]
	case 1:
		x.To = bad[l.below(len(bad))]
	case 2:
		x.Kind = bad[l.below(len(bad))]
	}
	return x
}

// doBoth does one thing to both, and tells what it was.
func doBoth(t *testing.T, l *lot, r *replica.Replica, p *plain) string {
	t.Helper()
	switch l.below(100) {
	case 0:
		r.Crash()
		p.crash()
		return "crash true"
	case 1, 2:
		upto := near(l, p) - l.below(8)
		got, want := r.Trim(upto), p.trim(upto)
		if got != want {
			t.Errorf("Trim(%d): %d, want %d", upto, got, want)
		}
		return fmt.Sprint("trim ", want > 0)
	case 3, 4, 5:
		to := l.below(p.n+4) - 2
		var want []api.Note
		if to >= 0 && to < p.n {
			want = []api.Note{ask(p.me, to, p.next())}
		}
		wantNotes(t, "Ask", r.Ask(to), want)
		return fmt.Sprint("ask ", len(want) > 0)
	case 6, 7:
		want := p.lead()
		wantNotes(t, "Lead", r.Lead(), want)
		return fmt.Sprint("lead ", len(want) > 0)
	case 8, 9, 10, 11, 12, 13:
		value := text(l)
		got, err := r.Propose(value)
		want, wantErr := p.propose(value)
		wantNotes(t, "Propose", got, want)
		if err != wantErr {
			t.Errorf("Propose of %d bytes: %d, want %d", len(value), err, wantErr)
		}
		return fmt.Sprint("propose ", wantErr == api.OK)
	}
	x, next := someNote(l, p), p.next()
	want := p.take(x)
	wantTake(t, r, x, want...)
	return fmt.Sprint("take ", x.Kind, " ", len(want) > 0 || p.next() > next)
}

func TestAgainstPlain(t *testing.T) {
	count := map[string]int{}
	for round := range 280 {
		l := lot(300 + round)
		n := 1 + round%mostNodes
		me := l.below(n)
		r, p := node(t, n, me), newPlain(n, me)
		if round%4 == 3 { // near the end of what a log has
			x := tell(me, me, facts(0, many(maxLog-10)...)...)
			r.Take(x)
			p.take(x)
			r.Trim(maxLog - 10)
			p.trim(maxLog - 10)
		}
		if round%5 == 4 { // near the end of what ballots there are
			x := prepare(me, me, maxLog-1, bal(lastN-4, 0))
			wantTake(t, r, x, p.take(x)...)
		}
		for now := range 300 {
			count[doBoth(t, &l, r, p)]++
			wantState(t, r, p.leads, p.next(), p.log()...)
			if t.Failed() {
				t.Fatalf("round %d, step %d", round, now)
			}
		}
	}
	for _, what := range []string{"trim", "ask", "lead", "propose", "take 1", "take 2", "take 3", "take 4", "take 5", "take 6"} {
		for _, was := range []bool{true, false} {
			if sum := count[fmt.Sprint(what, " ", was)]; sum < 100 {
				t.Errorf("%s %v %d times: too seldom to tell", what, was, sum)
			}
		}
	}
}

package learner_test

import (
	"fmt"
	"slices"
	"strings"
	"testing"

	"hurdle/acceptor"
	"hurdle/api"
	"hurdle/learner"
	"hurdle/proposer"
)

// lot gives numbers of many values, the same ones each time.
type lot uint64

func (l *lot) below(n int) int {
	*l = *l*6364136223846793005 + 1442695040888963407
	return int(uint64(*l)>>33) % n
}

// heard is a vote, and whose it is.
type heard struct {
	from int
	vote api.Vote
}

// plain is what a learner does, by the words of the chapter: it keeps all that it heard, and asks that anew each time.
type plain struct {
	n, base int
	heard   []heard
	told    []api.Vote
}

func valid(b api.Ballot) bool {
	return b.N >= 0 && b.N <= lastN && b.Node >= 0 && b.Node < mostNodes
}

func greater(a, b api.Ballot) bool {
	return a.N > b.N || a.N == b.N && a.Node > b.Node
}

// counts is node from's vote for the slot: of those that it gave the first one by the greatest ballot.
func (p *plain) counts(from, slot int) (api.Vote, bool) {
	best, found := api.Vote{}, false
	for _, h := range p.heard {
		if h.from == from && h.vote.Slot == slot && (!found || greater(h.vote.Ballot, best.Ballot)) {
			best, found = h.vote, true
		}
	}
	return best, found
}

func (p *plain) hear(from int, v api.Vote) bool {
	_, told := p.value(v.Slot)
	if from < 0 || from >= p.n || !valid(v.Ballot) || v.Slot < p.base || v.Slot >= maxLog || len(v.Value) > mostBody || told {
		return false
	}
	p.heard = append(p.heard, heard{from, v})
	sum := 0
	for node := range p.n {
		if w, found := p.counts(node, v.Slot); found && w == v {
			sum++
		}
	}
	return 2*sum > p.n && p.tell(v.Slot, v.Value)
}

func (p *plain) value(slot int) (string, bool) {
	for _, v := range p.told {
		if v.Slot == slot && slot >= p.base {
			return v.Value, true
		}
	}
	return "", false
}

func (p *plain) tell(slot int, value string) bool {
	if _, told := p.value(slot); told || slot < p.base || slot >= maxLog || len(value) > mostBody {
		return false
	}
	p.told = append(p.told, api.Vote{Slot: slot, Value: value})
	return true
}

func (p *plain) next() int {
	for next := p.base; ; next++ {
		if _, told := p.value(next); !told {
			return next
		}
	}
}

func (p *plain) log(from int) []string {
	var all []string
	for slot, next := p.base, p.next(); slot < next; slot++ {
		if value, _ := p.value(slot); slot >= from {
			all = append(all, value)
		}
	}
	return all
}

func (p *plain) trim(upto int) int {
	was := p.base
	p.base = max(p.base, min(upto, p.next()))
	return p.base - was
}

// text is a value of few, so that nodes often agree, now and then one of the longest or longer.
func text(l *lot) string {
	if l.below(60) == 0 {
		return strings.Repeat("v", mostBody+l.below(2))
	}
	return fmt.Sprint("value ", l.below(2))
}

// near is a slot about those that are told next, now and then one of the last or none at all.
func near(l *lot, p *plain) int {
	switch l.below(40) {
	case 0:
		all := badSlots()
		return all[l.below(len(all))]
	case 1:
		return maxLog - 3 + l.below(6)
	}
	return p.next() + l.below(8) - 3
}

// someVote is one of few ballots and values, now and then one that may not be.
func someVote(l *lot, p *plain) api.Vote {
	v := api.Vote{Slot: near(l, p), Ballot: bal(l.below(3), l.below(2)), Value: text(l)}
	if l.below(30) == 0 {
		all := badBallots()
		v.Ballot = all[l.below(len(all))]
	}
	return v
}

// doBoth does one thing to both, and tells what it was.
func doBoth(t *testing.T, r *lot, l *learner.Learner, p *plain) string {
	t.Helper()
	switch r.below(40) {
	case 0, 1:
		slot, value := near(r, p), text(r)
		got, want := l.Tell(slot, value), p.tell(slot, value)
		if got != want {
			t.Errorf("Tell(%d, %s): %v, want %v", slot, short(value), got, want)
		}
		return fmt.Sprint("tell ", want)
	case 2:
		upto := near(r, p) - r.below(8)
		got, want := l.Trim(upto), p.trim(upto)
		if got != want {
			t.Errorf("Trim(%d): %d, want %d", upto, got, want)
		}
		return fmt.Sprint("trim ", want > 0)
	case 3, 4, 5:
		slot := near(r, p)
		got, ok := l.Told(slot)
		want, wantOk := p.value(slot)
		if got != want || ok != wantOk {
			t.Errorf("Told(%d): %s, %v, want %s, %v", slot, short(got), ok, short(want), wantOk)
		}
		return fmt.Sprint("told ", wantOk)
	case 6, 7, 8:
		from := near(r, p) - r.below(8)
		got, want := l.Log(from), p.log(from)
		if !slices.Equal(got, want) {
			t.Errorf("Log(%d): %s, want %s", from, briefs(got), briefs(want))
		}
		return fmt.Sprint("log ", len(want) > 0)
	}
	from, v := r.below(p.n), someVote(r, p)
	if r.below(30) == 0 {
		all := badNodes(p.n)
		from = all[r.below(len(all))]
	}
	got, want := l.Hear(from, v), p.hear(from, v)
	if got != want {
		t.Errorf("Hear(%d, %s): %v, want %v", from, brief(v), got, want)
	}
	return fmt.Sprint("hear ", want)
}

func TestAgainstPlain(t *testing.T) {
	count := map[string]int{}
	for round := range 140 {
		r := lot(200 + round)
		n := 1 + round%mostNodes
		l, p := among(t, n), &plain{n: n}
		if round%4 == 3 { // near the end of what a log has
			for slot := range maxLog - 10 {
				l.Tell(slot, "x")
			}
			l.Trim(maxLog - 10)
			p.base = maxLog - 10
		}
		for now := range 300 {
			count[doBoth(t, &r, l, p)]++
			wantState(t, l, p.base, p.next())
			if t.Failed() {
				t.Fatalf("round %d, step %d", round, now)
			}
		}
	}
	for _, what := range []string{"tell", "trim", "told", "log", "hear"} {
		for _, was := range []bool{true, false} {
			if sum := count[fmt.Sprint(what, " ", was)]; sum < 100 {
				t.Errorf("%s %v %d times: too seldom to tell", what, was, sum)
			}
		}
	}
}

// group is proposers, acceptors and learners of one log; votes that were accepted may come to learners late, often or never.
type group struct {
	lot       lot
	proposers []*proposer.Proposer
	acceptors []*acceptor.Acceptor
	learners  []*learner.Learner
	ballots   []api.Ballot
	given     []api.Vote
	accepted  []heard
	log       []string // the longest that was seen
}

func newGroup(t *testing.T, n int, seed lot) *group {
	g := &group{lot: seed, ballots: make([]api.Ballot, n)}
	for i := range n {
		g.proposers = append(g.proposers, proposer.New(n, i))
		g.acceptors = append(g.acceptors, acceptor.New())
		g.learners = append(g.learners, among(t, n))
	}
	return g
}

// late is one of so many, more often one of the last.
func (g *group) late(n int) int {
	return n - 1 - g.lot.below(min(n, 1+g.lot.below(40)))
}

// move lets one of the group do something.
func (g *group) move(now int) {
	n := len(g.proposers)
	i, j := g.lot.below(n), g.lot.below(n)
	p, a := g.proposers[i], g.acceptors[j]
	switch g.lot.below(60) {
	case 0:
		if b, err := p.Lead(g.acceptors[i].Promised(), 0); err == api.OK {
			g.ballots[i] = b
		}
	case 1:
		p.Step(a.Promised())
	case 2:
		l := g.learners[i]
		if value, ok := g.learners[j].Told(l.Next()); ok {
			l.Tell(l.Next(), value)
		}
	case 3, 4, 5, 6, 7, 8, 9, 10, 11, 12:
		if l, ok := a.Promise(g.ballots[i], 0); ok && p.Promise(j, g.ballots[i], l) {
			g.given = append(g.given, p.Fill()...)
		}
	case 13, 14:
		if v, err := p.Propose(fmt.Sprint("value ", now)); err == api.OK {
			g.given = append(g.given, v)
		}
	default:
		g.pass(i, j)
	}
}

// pass lets a vote come to acceptor j, or an accepted one to learner i.
func (g *group) pass(i, j int) {
	if len(g.given) > 0 && g.lot.below(2) == 0 {
		v := g.given[g.late(len(g.given))]
		if g.acceptors[j].Accept(v) {
			g.accepted = append(g.accepted, heard{j, v})
		}
	} else if len(g.accepted) > 0 {
		h := g.accepted[g.late(len(g.accepted))]
		g.learners[i].Hear(h.from, h.vote)
	}
}

// check asks that each log is a beginning of the longest one.
func (g *group) check(t *testing.T) {
	t.Helper()
	for i, l := range g.learners {
		log := l.Log(0)
		both := min(len(log), len(g.log))
		if !slices.Equal(log[:both], g.log[:both]) {
			t.Fatalf("learner %d: %s, another one had %s", i, briefs(log), briefs(g.log))
		}
		if len(log) > both {
			g.log = log
		}
	}
}

// Of any two learners' logs one is a beginning of the other one, whoever leads, and whatever is lost, doubled or late.
func TestLogsAreBeginningsOfOneAnother(t *testing.T) {
	told, unlike := 0, 0
	for round := range 140 {
		g := newGroup(t, 1+round%mostNodes, lot(2000+round))
		for now := range 1500 {
			g.move(now)
			g.check(t)
		}
		told += len(g.log)
		for _, l := range g.learners {
			if l.Next() < len(g.log) {
				unlike++
			}
		}
	}
	if told < 1000 || unlike < 100 {
		t.Errorf("%d slots are told, %d learners know less: too few to tell", told, unlike)
	}
}

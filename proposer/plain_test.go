package proposer_test

import (
	"fmt"
	"slices"
	"strings"
	"testing"

	"hurdle/acceptor"
	"hurdle/api"
	"hurdle/proposer"
)

// lot gives numbers of many values, the same ones each time.
type lot uint64

func (l *lot) below(n int) int {
	*l = *l*6364136223846793005 + 1442695040888963407
	return int(uint64(*l)>>33) % n
}

// plain is what a proposer does, by the words of the chapter: it keeps all that it was told.
type plain struct {
	n, me               int
	asks, leads, filled bool
	ballot              api.Ballot
	asked, proposed     int
	nodes               []int
	counted             []api.Vote
}

func valid(b api.Ballot) bool {
	return b.N >= 0 && b.N <= lastN && b.Node >= 0 && b.Node < mostNodes
}

func greater(a, b api.Ballot) bool {
	return a.N > b.N || a.N == b.N && a.Node > b.Node
}

func (p *plain) lead(above api.Ballot, from int) (api.Ballot, api.Errno) {
	if !valid(above) || from < 0 || from >= maxLog {
		return api.Ballot{}, api.ErrArg
	}
	top := p.ballot
	if greater(above, top) {
		top = above
	}
	if top.N == lastN {
		return api.Ballot{}, api.ErrFull
	}
	*p = plain{n: p.n, me: p.me, asks: true, ballot: bal(top.N+1, p.me), asked: from}
	return p.ballot, api.OK
}

func (p *plain) promise(from int, b api.Ballot, l []api.Vote) bool {
	if !p.asks || b != p.ballot || from < 0 || from >= p.n || slices.Contains(p.nodes, from) {
		return false
	}
	p.nodes = append(p.nodes, from)
	for _, v := range l {
		if v.Slot >= p.asked && v.Slot < maxLog && valid(v.Ballot) && len(v.Value) <= mostBody {
			p.counted = append(p.counted, v)
		}
	}
	p.leads = 2*len(p.nodes) > p.n
	p.asks = !p.leads
	return p.leads
}

func (p *plain) fill() []api.Vote {
	if !p.leads || p.filled {
		return nil
	}
	p.filled = true
	var all []api.Vote
	for slot := p.asked; slot < p.end(); slot++ {
		best := api.Vote{Ballot: bal(-1, 0)}
		for _, v := range p.counted {
			if v.Slot == slot && greater(v.Ballot, best.Ballot) {
				best = v
			}
		}
		all = append(all, api.Vote{Slot: slot, Ballot: p.ballot, Value: best.Value})
	}
	return all
}

// end is one beyond the last slot that a vote counted for.
func (p *plain) end() int {
	end := p.asked
	for _, v := range p.counted {
		end = max(end, v.Slot+1)
	}
	return end
}

func (p *plain) next() int { return p.end() + p.proposed }

func (p *plain) propose(value string) (api.Vote, api.Errno) {
	v := api.Vote{Slot: p.next(), Ballot: p.ballot, Value: value}
	switch {
	case len(value) > mostBody:
		return api.Vote{}, api.ErrSize
	case v.Slot == maxLog:
		return api.Vote{}, api.ErrFull
	case !p.leads:
		return api.Vote{}, api.ErrState
	}
	p.proposed++
	return v, api.OK
}

func (p *plain) step(b api.Ballot) bool {
	if !valid(b) || !greater(b, p.ballot) {
		return false
	}
	p.asks, p.leads, p.ballot = false, false, b
	return true
}

// near is a ballot about b, now and then one that may not be, or one of the last.
func near(l *lot, b api.Ballot) api.Ballot {
	switch l.below(40) {
	case 0, 1:
		all := badBallots()
		return all[l.below(len(all))]
	case 2:
		return bal(lastN-l.below(4), l.below(mostNodes))
	}
	return bal(min(max(b.N+l.below(4)-2, 0), lastN), l.below(mostNodes))
}

// text is a value, now and then one of the longest or longer.
func text(l *lot) string {
	if l.below(40) == 0 {
		return strings.Repeat("v", mostBody+l.below(2))
	}
	return fmt.Sprint("value ", l.below(1000))
}

// someVotes are of slots about the one that is asked, of few ballots, so that there are many of one slot and ballot.
func someVotes(l *lot, p *plain) []api.Vote {
	var all []api.Vote
	for range l.below(6) {
		v := api.Vote{Slot: p.asked + l.below(8) - 1, Ballot: bal(l.below(3), l.below(2)), Value: text(l)}
		if l.below(10) == 0 {
			v.Ballot = near(l, v.Ballot)
		}
		all = append(all, v)
	}
	return all
}

// doBoth does one thing to both, and tells what it was.
func doBoth(t *testing.T, l *lot, p *proposer.Proposer, q *plain) string {
	t.Helper()
	switch l.below(24) {
	case 0, 1:
		above, from := near(l, q.ballot), l.below(maxLog+8)-3
		if l.below(3) == 0 {
			from = maxLog - 6 + l.below(6)
		}
		got, err := p.Lead(above, from)
		want, wantErr := q.lead(above, from)
		if got != want || err != wantErr {
			t.Errorf("Lead(%v, %d): %v, %d, want %v, %d", above, from, got, err, want, wantErr)
		}
		return fmt.Sprint("lead ", wantErr)
	case 2:
		b := near(l, q.ballot)
		got, want := p.Step(b), q.step(b)
		if got != want {
			t.Errorf("Step(%v): %v, want %v", b, got, want)
		}
		return fmt.Sprint("step ", want)
	case 3, 4:
		got, want := p.Fill(), q.fill()
		if !slices.Equal(got, want) {
			t.Errorf("Fill: %s, want %s", brief(got...), brief(want...))
		}
		return fmt.Sprint("fill ", len(want) > 0)
	case 5, 6, 7, 8, 9, 10:
		value := text(l)
		got, err := p.Propose(value)
		want, wantErr := q.propose(value)
		if got != want || err != wantErr {
			t.Errorf("Propose of %d bytes: %s, %d, want %s, %d", len(value), brief(got), err, brief(want), wantErr)
		}
		return fmt.Sprint("propose ", wantErr)
	}
	from, b, votes := l.below(q.n+2)-1, q.ballot, someVotes(l, q)
	if l.below(8) == 0 {
		b = near(l, b)
	}
	got, want := p.Promise(from, b, votes), q.promise(from, b, votes)
	if got != want {
		t.Errorf("Promise(%d, %v, %s): %v, want %v", from, b, brief(votes...), got, want)
	}
	return fmt.Sprint("promise ", want)
}

func TestAgainstPlain(t *testing.T) {
	count := map[string]int{}
	for round := range 210 {
		l := lot(190 + round)
		n := 1 + round%mostNodes
		me := l.below(n)
		p, q := node(t, n, me), &plain{n: n, me: me}
		for now := range 400 {
			count[doBoth(t, &l, p, q)]++
			wantState(t, p, q.leads, q.next())
			if t.Failed() {
				t.Fatalf("round %d, step %d", round, now)
			}
		}
	}
	often := []string{"lead 0", "lead 1", "lead 5", "step true", "step false", "fill true", "fill false",
		"propose 0", "propose 2", "propose 5", "propose 16", "promise true", "promise false"}
	for _, what := range often {
		if count[what] < 100 {
			t.Errorf("%s %d times: too seldom to tell", what, count[what])
		}
	}
}

// group is proposers and acceptors of one log, and what most acceptors have accepted by one ballot.
type group struct {
	lot       lot
	proposers []*proposer.Proposer
	acceptors []*acceptor.Acceptor
	ballots   []api.Ballot
	ways      []api.Vote          // votes that were given, and may still arrive
	given     map[api.Vote][]bool // by whom they were accepted
	chosen    map[int]string
}

func newGroup(t *testing.T, n int, seed lot) *group {
	g := &group{lot: seed, ballots: make([]api.Ballot, n), given: map[api.Vote][]bool{}, chosen: map[int]string{}}
	for i := range n {
		g.proposers = append(g.proposers, node(t, n, i))
		g.acceptors = append(g.acceptors, acceptor.New())
	}
	return g
}

// move lets one of the group do something.
func (g *group) move(t *testing.T, now int) {
	t.Helper()
	n := len(g.proposers)
	i, j := g.lot.below(n), g.lot.below(n)
	p, a := g.proposers[i], g.acceptors[j]
	switch g.lot.below(40) {
	case 0:
		if b, err := p.Lead(g.acceptors[i].Promised(), 0); err == api.OK {
			g.ballots[i] = b
		}
	case 1:
		p.Step(a.Promised())
	case 2, 3, 4, 5, 6, 7, 8, 9, 10, 11:
		if l, ok := a.Promise(g.ballots[i], 0); ok && p.Promise(j, g.ballots[i], l) {
			g.ways = append(g.ways, p.Fill()...)
		}
	case 12, 13:
		if v, err := p.Propose(fmt.Sprint("value ", now)); err == api.OK {
			g.ways = append(g.ways, v)
		}
	default:
		if len(g.ways) > 0 {
			g.accept(t, j, g.ways[len(g.ways)-1-g.lot.below(min(len(g.ways), 1+g.lot.below(30)))])
		}
	}
}

func (g *group) accept(t *testing.T, at int, v api.Vote) {
	t.Helper()
	if !g.acceptors[at].Accept(v) {
		return
	}
	if g.given[v] == nil {
		g.given[v] = make([]bool, len(g.acceptors))
	}
	g.given[v][at] = true
	sum := 0
	for _, has := range g.given[v] {
		if has {
			sum++
		}
	}
	if 2*sum <= len(g.acceptors) {
		return
	}
	if was, ok := g.chosen[v.Slot]; ok && was != v.Value {
		t.Fatalf("slot %d: %q was chosen, and then %q", v.Slot, was, v.Value)
	}
	g.chosen[v.Slot] = v.Value
}

// What most have accepted stays what it is, whoever leads, and whatever is lost, doubled or late.
func TestOneValueOfASlotIsChosen(t *testing.T) {
	chosen, led := 0, 0
	for round := range 140 {
		g := newGroup(t, 1+round%mostNodes, lot(1900+round))
		for now := range 1000 {
			g.move(t, now)
		}
		chosen += len(g.chosen)
		ballots := map[api.Ballot]int{}
		for v := range g.given {
			ballots[v.Ballot]++
		}
		led += len(ballots)
	}
	if chosen < 1000 || led < 1000 {
		t.Errorf("%d slots were chosen by %d ballots: too few to tell", chosen, led)
	}
}

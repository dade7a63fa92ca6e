package proposer_test

import (
	"fmt"
	"math"
	"slices"
	"strings"
	"testing"
	"unsafe"

	"hurdle/api"
	"hurdle/proposer"
)

const (
	lastN     = 1<<31 - 1
	maxLog    = 1024
	mostBody  = 4096
	mostNodes = 7
)

func bal(n, node int) api.Ballot { return api.Ballot{N: n, Node: node} }

func vote(slot, n, node int, value string) api.Vote {
	return api.Vote{Slot: slot, Ballot: bal(n, node), Value: value}
}

// badBallots are those that nobody may lead by.
func badBallots() []api.Ballot {
	return []api.Ballot{bal(-1, 0), bal(-1, 6), bal(0, -1), bal(5, -1), bal(0, 7), bal(9, 7), bal(lastN, 7),
		bal(lastN+1, 0), bal(1<<32+5, 0), bal(5, 1<<32), bal(math.MinInt, 0), bal(math.MaxInt, 0),
		bal(5, math.MinInt), bal(5, math.MaxInt)}
}

// badSlots are those that no log has.
func badSlots() []int {
	return []int{-1, -maxLog, maxLog, maxLog + 1, 1 << 32, 1<<32 + 3, math.MinInt, math.MinInt + 1, math.MaxInt}
}

// brief tells votes without their long values.
func brief(l ...api.Vote) string {
	var parts []string
	for _, v := range l {
		if len(v.Value) > 20 {
			v.Value = fmt.Sprint(len(v.Value), " bytes")
		}
		parts = append(parts, fmt.Sprintf("%d by %d.%d: %q", v.Slot, v.Ballot.N, v.Ballot.Node, v.Value))
	}
	return "[" + strings.Join(parts, ", ") + "]"
}

func node(t *testing.T, n, me int) *proposer.Proposer {
	t.Helper()
	p := proposer.New(n, me)
	if p == nil {
		t.Fatalf("New(%d, %d): nil", n, me)
	}
	return p
}

// leader leads by the ballot {1, me}, from slot from on, behind promises of the first nodes; the votes come with the first one.
func leader(t *testing.T, n, me, from int, votes ...api.Vote) *proposer.Proposer {
	t.Helper()
	p := node(t, n, me)
	wantLead(t, p, bal(0, 0), from, bal(1, me))
	for i := range n/2 + 1 {
		wantPromise(t, p, i, bal(1, me), i == n/2, votes...)
		votes = nil
	}
	wantState(t, p, true, p.Next())
	return p
}

func wantLead(t *testing.T, p *proposer.Proposer, above api.Ballot, from int, want api.Ballot) {
	t.Helper()
	if got, err := p.Lead(above, from); got != want || err != api.OK {
		t.Errorf("Lead(%v, %d): %v, %d, want %v, 0", above, from, got, err, want)
	}
	wantState(t, p, false, from)
}

func wantNoLead(t *testing.T, p *proposer.Proposer, above api.Ballot, from int, want api.Errno) {
	t.Helper()
	wantSame(t, p, func() {
		if got, err := p.Lead(above, from); got != bal(0, 0) || err != want {
			t.Errorf("Lead(%v, %d): %v, %d, want the zero one, %d", above, from, got, err, want)
		}
	})
}

func wantPromise(t *testing.T, p *proposer.Proposer, from int, b api.Ballot, want bool, l ...api.Vote) {
	t.Helper()
	if got := p.Promise(from, b, l); got != want {
		t.Errorf("Promise(%d, %v, %s): %v, want %v", from, b, brief(l...), got, want)
	}
}

// wantNoPromise is for a promise that does not count: its vote would be seen by Next.
func wantNoPromise(t *testing.T, p *proposer.Proposer, from int, b api.Ballot) {
	t.Helper()
	wantSame(t, p, func() { wantPromise(t, p, from, b, false, vote(maxLog-1, lastN, 6, "no promise")) })
}

func wantFill(t *testing.T, p *proposer.Proposer, want ...api.Vote) {
	t.Helper()
	if got := p.Fill(); !slices.Equal(got, want) {
		t.Errorf("Fill: %s, want %s", brief(got...), brief(want...))
	}
}

// wantFilled is for Fill and what comes behind: it was told already.
func wantFilled(t *testing.T, p *proposer.Proposer, want ...api.Vote) {
	t.Helper()
	wantFill(t, p, want...)
	wantFill(t, p)
	wantFill(t, p)
}

func wantPropose(t *testing.T, p *proposer.Proposer, value string, want api.Vote) {
	t.Helper()
	if got, err := p.Propose(value); got != want || err != api.OK {
		t.Errorf("Propose: %s, %d, want %s, 0", brief(got), err, brief(want))
	}
	wantState(t, p, true, want.Slot+1)
}

func wantNoPropose(t *testing.T, p *proposer.Proposer, value string, want api.Errno) {
	t.Helper()
	wantSame(t, p, func() {
		if got, err := p.Propose(value); got != (api.Vote{}) || err != want {
			t.Errorf("Propose of %d bytes: %s, %d, want none, %d", len(value), brief(got), err, want)
		}
	})
}

func wantStep(t *testing.T, p *proposer.Proposer, b api.Ballot) {
	t.Helper()
	next := p.Next()
	if !p.Step(b) {
		t.Errorf("Step(%v): false, want true", b)
	}
	wantState(t, p, false, next)
}

func wantNoStep(t *testing.T, p *proposer.Proposer, b api.Ballot) {
	t.Helper()
	wantSame(t, p, func() {
		if p.Step(b) {
			t.Errorf("Step(%v): true, want false", b)
		}
	})
}

func wantState(t *testing.T, p *proposer.Proposer, leads bool, next int) {
	t.Helper()
	if p.Leads() != leads || p.Next() != next {
		t.Errorf("leads %v, next %d, want %v, %d", p.Leads(), p.Next(), leads, next)
	}
}

// wantSame is for what changes nothing.
func wantSame(t *testing.T, p *proposer.Proposer, do func()) {
	t.Helper()
	leads, next := p.Leads(), p.Next()
	do()
	wantState(t, p, leads, next)
}

func TestExample(t *testing.T) {
	p := node(t, 1, 0)
	wantLead(t, p, bal(0, 0), 0, bal(1, 0))
	wantPromise(t, p, 0, bal(1, 0), true)
	wantState(t, p, true, 0)
}

func TestNew(t *testing.T) {
	edges := []int{math.MinInt, -1 << 32, -1, 0, 1, 2, 3, 4, 5, 6, 7, 8, 1 << 32, 1<<32 + 3, math.MaxInt}
	for _, n := range edges {
		for _, me := range edges {
			p := proposer.New(n, me)
			want := n >= 1 && n <= mostNodes && me >= 0 && me < n
			if (p != nil) != want {
				t.Errorf("New(%d, %d): one is there %v, want %v", n, me, p != nil, want)
			}
			if p != nil {
				wantState(t, p, false, 0)
				wantFill(t, p)
				wantNoPropose(t, p, "x", api.ErrState)
				wantNoStep(t, p, bal(0, 0)) // its ballot is the zero one at first
			}
		}
	}
}

func TestProposersAreApart(t *testing.T) {
	p, q := node(t, 1, 0), node(t, 1, 0)
	wantLead(t, p, bal(7, 3), 5, bal(8, 0))
	wantPromise(t, p, 0, bal(8, 0), true, vote(9, 1, 0, "x"))
	wantState(t, q, false, 0)
	wantNoPromise(t, q, 0, bal(8, 0))
	wantLead(t, q, bal(0, 0), 0, bal(1, 0))
	wantState(t, p, true, 10)
}

func TestLead(t *testing.T) {
	for _, c := range []struct {
		me    int
		above api.Ballot
		from  int
		want  api.Ballot
	}{
		{0, bal(0, 0), 0, bal(1, 0)},
		{6, bal(0, 0), 0, bal(1, 6)},
		{2, bal(0, 6), 1, bal(1, 2)},
		{2, bal(4, 0), 2, bal(5, 2)},
		{2, bal(4, 6), 500, bal(5, 2)},
		{1, bal(lastN-1, 6), maxLog - 2, bal(lastN, 1)},
		{3, bal(lastN-1, 0), maxLog - 1, bal(lastN, 3)},
	} {
		wantLead(t, node(t, mostNodes, c.me), c.above, c.from, c.want)
	}
}

// The ballot goes beyond above and its own one.
func TestLeadAgain(t *testing.T) {
	p := node(t, 3, 2)
	wantLead(t, p, bal(0, 0), 0, bal(1, 2))
	wantLead(t, p, bal(0, 0), 7, bal(2, 2))
	wantLead(t, p, bal(1, 6), 3, bal(3, 2))
	wantLead(t, p, bal(3, 1), 3, bal(4, 2)) // of its own number, and less
	wantLead(t, p, bal(4, 2), 3, bal(5, 2)) // its own one
	wantLead(t, p, bal(5, 6), 3, bal(6, 2)) // of its own number, and greater
	wantLead(t, p, bal(20, 0), 0, bal(21, 2))
	wantLead(t, p, bal(0, 0), 0, bal(22, 2))
}

func TestLeadRefuses(t *testing.T) {
	for _, p := range []*proposer.Proposer{node(t, 3, 1), leader(t, 3, 1, 4, vote(6, 0, 0, "x"))} {
		for _, b := range badBallots() {
			wantNoLead(t, p, b, 0, api.ErrArg)
			wantNoLead(t, p, b, -1, api.ErrArg)
		}
		for _, from := range badSlots() {
			wantNoLead(t, p, bal(1, 1), from, api.ErrArg)
			wantNoLead(t, p, bal(lastN, 0), from, api.ErrArg) // ahead of ErrFull
		}
		for i := range mostNodes {
			wantNoLead(t, p, bal(lastN, i), 0, api.ErrFull)
			wantNoLead(t, p, bal(lastN, i), maxLog-1, api.ErrFull)
		}
	}
}

// Its own ballot, too, may have the last number: by a Lead, or by a Step.
func TestLeadIsFull(t *testing.T) {
	p := node(t, 3, 1)
	wantLead(t, p, bal(lastN-1, 0), 5, bal(lastN, 1))
	wantNoLead(t, p, bal(0, 0), 5, api.ErrFull)
	wantNoLead(t, p, bal(lastN, 6), 5, api.ErrFull)
	wantNoLead(t, p, bal(0, 0), -1, api.ErrArg)
	wantPromise(t, p, 0, bal(lastN, 1), false) // it asks as ahead
	wantPromise(t, p, 2, bal(lastN, 1), true)
	q := node(t, 3, 1)
	wantStep(t, q, bal(lastN, 0))
	wantNoLead(t, q, bal(0, 0), 5, api.ErrFull)
	r := node(t, 3, 1)
	wantStep(t, r, bal(lastN-1, 6))
	wantLead(t, r, bal(0, 0), 5, bal(lastN, 1))
}

// A Lead that is refused leaves what was promised, and that it leads.
func TestLeadThatIsRefused(t *testing.T) {
	p := node(t, 3, 1)
	wantLead(t, p, bal(0, 0), 3, bal(1, 1))
	wantPromise(t, p, 0, bal(1, 1), false, vote(4, 0, 0, "x"))
	wantNoLead(t, p, bal(0, 0), maxLog, api.ErrArg)
	wantNoLead(t, p, bal(lastN, 0), 0, api.ErrFull)
	wantNoPromise(t, p, 0, bal(1, 1))
	wantPromise(t, p, 1, bal(1, 1), true)
	wantNoLead(t, p, bal(0, 7), 0, api.ErrArg)
	wantNoLead(t, p, bal(lastN, 0), 0, api.ErrFull)
	wantFilled(t, p, vote(3, 1, 1, ""), vote(4, 1, 1, "x"))
	wantNoLead(t, p, bal(lastN, 0), 0, api.ErrFull)
	wantFill(t, p)
	wantPropose(t, p, "y", vote(5, 1, 1, "y"))
}

// Lead asks all nodes anew: what was promised, counted and told ahead is no more.
func TestLeadBeginsAnew(t *testing.T) {
	p := node(t, 3, 1)
	wantLead(t, p, bal(0, 0), 0, bal(1, 1))
	wantPromise(t, p, 0, bal(1, 1), false, vote(9, 0, 0, "old"))
	wantState(t, p, false, 10)
	wantLead(t, p, bal(0, 0), 2, bal(2, 1))
	wantNoPromise(t, p, 2, bal(1, 1))
	wantPromise(t, p, 0, bal(2, 1), false, vote(3, 1, 0, "new"))
	wantPromise(t, p, 2, bal(2, 1), true)
	wantFilled(t, p, vote(2, 2, 1, ""), vote(3, 2, 1, "new"))
	wantPropose(t, p, "y", vote(4, 2, 1, "y"))
	wantLead(t, p, bal(0, 0), 2, bal(3, 1))
	wantFill(t, p)
	wantNoPropose(t, p, "z", api.ErrState)
	wantNoPromise(t, p, 0, bal(2, 1))
	wantPromise(t, p, 2, bal(3, 1), false)
	wantPromise(t, p, 0, bal(3, 1), true, vote(2, 2, 1, "newer"))
	wantFilled(t, p, vote(2, 3, 1, "newer"))
	wantPropose(t, p, "z", vote(3, 3, 1, "z"))
}

// Who was elected and did not Fill yet has nothing of it behind another Lead.
func TestLeadAheadOfFill(t *testing.T) {
	p := leader(t, 1, 0, 2, vote(4, 0, 0, "old"))
	wantLead(t, p, bal(0, 0), 3, bal(2, 0))
	wantFill(t, p)
	wantPromise(t, p, 0, bal(2, 0), true)
	wantFilled(t, p)
	wantPropose(t, p, "x", vote(3, 2, 0, "x"))
}

func TestPromiseOfEachQuorum(t *testing.T) {
	for n := 1; n <= mostNodes; n++ {
		for me := range n {
			p := node(t, n, me)
			wantLead(t, p, bal(3, 0), 5, bal(4, me))
			for i := range n {
				from := (me*3 + i*(n-1) + 1) % n // each of them, in some order
				wantPromise(t, p, from, bal(4, me), i == n/2)
				wantState(t, p, i >= n/2, 5)
				wantNoPromise(t, p, from, bal(4, me))
			}
		}
	}
}

func TestPromiseRefusesNodes(t *testing.T) {
	for n := 1; n <= mostNodes; n++ {
		p := node(t, n, 0)
		wantLead(t, p, bal(0, 0), 0, bal(1, 0))
		for _, from := range []int{-1, n, n + 1, mostNodes, 64, 1 << 32, -1 << 32, math.MinInt, math.MaxInt} {
			wantNoPromise(t, p, from, bal(1, 0))
		}
		for i := range n/2 + 1 {
			wantPromise(t, p, n-1-i, bal(1, 0), i == n/2)
		}
		wantFilled(t, p)
	}
}

// A node that has promised promises no more, however often it comes.
func TestPromiseTwice(t *testing.T) {
	p := node(t, 5, 4)
	wantLead(t, p, bal(0, 0), 0, bal(1, 4))
	for from := range 2 {
		wantPromise(t, p, from, bal(1, 4), false)
		for range 5 {
			wantNoPromise(t, p, from, bal(1, 4))
			wantNoPromise(t, p, 0, bal(1, 4))
		}
	}
	wantPromise(t, p, 2, bal(1, 4), true)
	wantFilled(t, p)
}

func TestPromiseRefusesBallots(t *testing.T) {
	p := node(t, 3, 1)
	wantLead(t, p, bal(4, 0), 0, bal(5, 1))
	others := append(badBallots(), bal(0, 0), bal(4, 0), bal(4, 1), bal(5, 0), bal(5, 2), bal(6, 1), bal(lastN, 1), bal(1<<32+5, 1))
	for _, b := range others {
		wantNoPromise(t, p, 0, b)
	}
	wantPromise(t, p, 0, bal(5, 1), false) // none of those was a promise
	for _, b := range others {
		wantNoPromise(t, p, 2, b)
	}
	wantPromise(t, p, 2, bal(5, 1), true)
	wantFilled(t, p)
}

// Nobody asks ahead of a Lead, behind a Step, and when it leads.
func TestPromiseThatIsNotAsked(t *testing.T) {
	p := node(t, 1, 0)
	wantNoPromise(t, p, 0, bal(0, 0)) // its ballot, but not asked
	wantNoPromise(t, p, 0, bal(1, 0))
	wantStep(t, p, bal(2, 0))
	wantNoPromise(t, p, 0, bal(2, 0))
	wantLead(t, p, bal(0, 0), 0, bal(3, 0))
	wantStep(t, p, bal(3, 1))
	wantNoPromise(t, p, 0, bal(3, 0))
	wantNoPromise(t, p, 0, bal(3, 1))
	wantLead(t, p, bal(0, 0), 0, bal(4, 0))
	wantPromise(t, p, 0, bal(4, 0), true)
	wantNoPromise(t, p, 0, bal(4, 0))
	wantFilled(t, p)
	wantNoPromise(t, p, 0, bal(4, 0))
	wantFill(t, p)
}

// A promise that comes when it leads already: its votes do not count.
func TestPromiseThatIsLate(t *testing.T) {
	p := leader(t, 3, 1, 2, vote(3, 0, 1, "x"))
	wantNoPromise(t, p, 2, bal(1, 1))
	wantPromise(t, p, 2, bal(1, 1), false, vote(2, 0, 5, "late"), vote(3, 0, 5, "late"), vote(4, 0, 5, "late"))
	wantFilled(t, p, vote(2, 1, 1, ""), vote(3, 1, 1, "x"))
	wantPromise(t, p, 2, bal(1, 1), false, vote(4, 0, 5, "late"))
	wantFill(t, p)
	wantPropose(t, p, "y", vote(4, 1, 1, "y"))
}

// Votes that may not be do not count, but the promise and the votes beside them do.
func TestPromiseOfWrongVotes(t *testing.T) {
	long := strings.Repeat("v", mostBody+1)
	var wrong []api.Vote
	for _, b := range badBallots() {
		wrong = append(wrong, api.Vote{Slot: 7, Ballot: b, Value: "no ballot"})
	}
	for _, slot := range append(badSlots(), 0, 1, 4) {
		wrong = append(wrong, vote(slot, 9, 0, "no slot"))
	}
	wrong = append(wrong, vote(5, 9, 0, long), vote(8, 9, 0, long+long), vote(9, 9, 0, strings.Repeat("v", 1<<20)))
	for i, w := range wrong {
		p := leader(t, 3, 1, 5, w)
		wantState(t, p, true, 5)
		wantFilled(t, p)
		p = leader(t, 3, 1, 5, w, vote(6, 1, 0, "right"), w)
		wantFilled(t, p, vote(5, 1, 1, ""), vote(6, 1, 1, "right"))
		wantState(t, p, true, 7)
		if t.Failed() {
			t.Fatalf("of wrong votes the one at %d: %s", i, brief(w))
		}
	}
	p := leader(t, 3, 1, 5, wrong...)
	wantFilled(t, p)
	wantPropose(t, p, "y", vote(5, 1, 1, "y"))
}

func TestPromiseOfVotesAtTheEdges(t *testing.T) {
	long := strings.Repeat("v", mostBody)
	odd := "\x00\xff\xfe\n\x80"
	p := leader(t, 1, 0, maxLog-4, vote(maxLog-1, lastN, 6, long), vote(maxLog-3, 0, 0, odd), vote(maxLog-4, 0, 6, long[1:]))
	wantFilled(t, p, vote(maxLog-4, 1, 0, long[1:]), vote(maxLog-3, 1, 0, odd), vote(maxLog-2, 1, 0, ""), vote(maxLog-1, 1, 0, long))
	// Bytes of a value are counted, not its runes.
	wide := strings.Repeat("\u20ac", mostBody/3+1)
	wantFilled(t, leader(t, 1, 0, 0, vote(0, 0, 0, wide)))
}

func TestFill(t *testing.T) {
	p := leader(t, 1, 0, 3)
	wantFilled(t, p)
	wantState(t, p, true, 3)
	p = leader(t, 1, 0, 3, vote(3, 0, 0, "x"))
	wantFilled(t, p, vote(3, 1, 0, "x"))
	wantState(t, p, true, 4)
	p = leader(t, 1, 0, 3, vote(7, 0, 2, "seven"), vote(4, 0, 1, "four"))
	wantFilled(t, p, vote(3, 1, 0, ""), vote(4, 1, 0, "four"), vote(5, 1, 0, ""), vote(6, 1, 0, ""), vote(7, 1, 0, "seven"))
	wantState(t, p, true, 8)
}

// Of a slot's votes the greatest ballot's is told, whoever told it and when; of several the first.
func TestFillPicks(t *testing.T) {
	p := node(t, 5, 2)
	wantLead(t, p, bal(9, 0), 0, bal(10, 2))
	wantPromise(t, p, 3, bal(10, 2), false,
		vote(0, 3, 1, "greatest"), vote(1, 3, 1, "less"), vote(2, 3, 1, "first"), vote(3, 0, 0, "zero"), vote(4, 3, 1, ""))
	wantPromise(t, p, 0, bal(10, 2), false,
		vote(4, 3, 0, "less"), vote(2, 3, 1, "second"), vote(1, 3, 2, "mid"), vote(0, 3, 0, "less"), vote(3, 0, 0, "second"))
	wantPromise(t, p, 2, bal(10, 2), true,
		vote(0, 2, 6, "less"), vote(1, 4, 0, "greatest"), vote(1, 4, 0, "another"), vote(2, 3, 1, "third"), vote(5, 1, 1, "alone"))
	wantFilled(t, p, vote(0, 10, 2, "greatest"), vote(1, 10, 2, "greatest"), vote(2, 10, 2, "first"), vote(3, 10, 2, "zero"),
		vote(4, 10, 2, ""), vote(5, 10, 2, "alone"))
}

// A ballot of a vote may be greater than its own one: it counts like others.
func TestFillOfGreaterBallots(t *testing.T) {
	p := leader(t, 1, 0, 0, vote(0, 5, 5, "x"), vote(0, 1, 0, "y"), vote(0, lastN, 6, "z"))
	wantFilled(t, p, vote(0, 1, 0, "z"))
}

func TestFillUnlessItLeads(t *testing.T) {
	p := node(t, 3, 1)
	wantFill(t, p)
	wantLead(t, p, bal(0, 0), 0, bal(1, 1))
	wantFill(t, p)
	wantPromise(t, p, 0, bal(1, 1), false, vote(1, 0, 0, "x"))
	wantFill(t, p) // it was not told by that
	wantPromise(t, p, 1, bal(1, 1), true)
	wantStep(t, p, bal(1, 2))
	wantFilled(t, p)
}

// What is proposed ahead of Fill is none of its votes.
func TestFillBehindPropose(t *testing.T) {
	p := leader(t, 1, 0, 3, vote(4, 0, 0, "x"))
	wantPropose(t, p, "y", vote(5, 1, 0, "y"))
	wantPropose(t, p, "z", vote(6, 1, 0, "z"))
	wantFilled(t, p, vote(3, 1, 0, ""), vote(4, 1, 0, "x"))
	wantPropose(t, p, "y", vote(7, 1, 0, "y"))
	q := leader(t, 1, 0, 3)
	wantPropose(t, q, "y", vote(3, 1, 0, "y"))
	wantFilled(t, q)
}

func TestFillOfAllSlots(t *testing.T) {
	var votes, want []api.Vote
	for i := range maxLog {
		slot := i * 389 % maxLog // each of them, in no order
		votes = append(votes, vote(slot, 0, slot%mostNodes, fmt.Sprint("value ", slot)))
		want = append(want, vote(i, 1, 0, fmt.Sprint("value ", i)))
	}
	for _, from := range []int{0, 1, 700, maxLog - 1} {
		p := leader(t, 1, 0, from, votes...)
		wantState(t, p, true, maxLog)
		wantFilled(t, p, want[from:]...)
		wantNoPropose(t, p, "x", api.ErrFull)
	}
}

// Next goes beyond what counted, as soon as it counts, and never back but by a Lead.
func TestNext(t *testing.T) {
	p := node(t, 5, 0)
	wantState(t, p, false, 0)
	wantLead(t, p, bal(0, 0), 8, bal(1, 0))
	wantPromise(t, p, 1, bal(1, 0), false)
	wantState(t, p, false, 8)
	wantPromise(t, p, 2, bal(1, 0), false, vote(9, 0, 0, "x"), vote(8, 0, 0, "y"))
	wantState(t, p, false, 10)
	wantPromise(t, p, 3, bal(1, 0), true, vote(8, 0, 1, "z"), vote(7, 0, 1, "no slot"))
	wantState(t, p, true, 10)
	wantFill(t, p, vote(8, 1, 0, "z"), vote(9, 1, 0, "x"))
	wantState(t, p, true, 10)
	wantPropose(t, p, "v", vote(10, 1, 0, "v"))
	wantStep(t, p, bal(2, 0))
	wantState(t, p, false, 11)
	wantLead(t, p, bal(0, 0), 1, bal(3, 0))
	wantLead(t, p, bal(0, 0), 0, bal(4, 0))
}

func TestPropose(t *testing.T) {
	p := leader(t, 3, 1, 0)
	wantPropose(t, p, "x", vote(0, 1, 1, "x"))
	wantPropose(t, p, "x", vote(1, 1, 1, "x")) // the same value again
	wantPropose(t, p, "", vote(2, 1, 1, ""))
	odd := "\x00\xff\xfe\n\x80"
	wantPropose(t, p, odd, vote(3, 1, 1, odd))
}

func TestProposeUnlessItLeads(t *testing.T) {
	p := node(t, 3, 1)
	wantNoPropose(t, p, "x", api.ErrState)
	wantLead(t, p, bal(0, 0), 4, bal(1, 1))
	wantNoPropose(t, p, "x", api.ErrState)
	wantPromise(t, p, 0, bal(1, 1), false)
	wantNoPropose(t, p, "x", api.ErrState)
	wantPromise(t, p, 1, bal(1, 1), true)
	wantPropose(t, p, "x", vote(4, 1, 1, "x"))
	wantStep(t, p, bal(2, 0))
	wantNoPropose(t, p, "x", api.ErrState)
	wantNoPropose(t, p, "", api.ErrState)
}

func TestProposeOfLongValues(t *testing.T) {
	p := leader(t, 1, 0, 0)
	long := strings.Repeat("v", mostBody)
	wantPropose(t, p, long, vote(0, 1, 0, long))
	wantPropose(t, p, long[1:], vote(1, 1, 0, long[1:]))
	wantNoPropose(t, p, long+"v", api.ErrSize)
	wantNoPropose(t, p, strings.Repeat("v", 1<<20), api.ErrSize)
	wantNoPropose(t, p, strings.Repeat("\u20ac", mostBody/3+1), api.ErrSize)
	wantPropose(t, p, "x", vote(2, 1, 0, "x"))
}

func TestProposeToTheLastSlot(t *testing.T) {
	p := leader(t, 1, 0, 0)
	for slot := range maxLog {
		value := fmt.Sprint("value ", slot)
		wantPropose(t, p, value, vote(slot, 1, 0, value))
	}
	for range 3 {
		wantNoPropose(t, p, "x", api.ErrFull)
	}
	wantLead(t, p, bal(0, 0), maxLog-1, bal(2, 0))
	wantPromise(t, p, 0, bal(2, 0), true)
	wantPropose(t, p, "last", vote(maxLog-1, 2, 0, "last"))
	wantNoPropose(t, p, "x", api.ErrFull)
}

// Of several errors the one of the least number is told.
func TestProposeTellsTheLeastError(t *testing.T) {
	long := strings.Repeat("v", mostBody+1)
	p := node(t, 1, 0)
	wantNoPropose(t, p, long, api.ErrSize) // it does not lead, too
	p = leader(t, 1, 0, maxLog-1)
	wantPropose(t, p, "x", vote(maxLog-1, 1, 0, "x"))
	wantNoPropose(t, p, long, api.ErrSize) // the log is full, too
	wantStep(t, p, bal(2, 0))
	wantNoPropose(t, p, "x", api.ErrFull) // it does not lead, too
	wantNoPropose(t, p, long, api.ErrSize)
}

func TestStep(t *testing.T) {
	p := node(t, 3, 1)
	wantNoStep(t, p, bal(0, 0))
	wantStep(t, p, bal(0, 1))
	wantNoStep(t, p, bal(0, 1))
	wantStep(t, p, bal(2, 0))
	wantNoStep(t, p, bal(1, 6))
	wantNoStep(t, p, bal(2, 0))
	wantStep(t, p, bal(2, 6))
	wantLead(t, p, bal(0, 0), 4, bal(3, 1)) // its ballot counts as that one
	wantNoStep(t, p, bal(3, 0))
	wantNoStep(t, p, bal(3, 1))
	wantNoStep(t, p, bal(2, 6))
	wantPromise(t, p, 0, bal(3, 1), false)
	wantStep(t, p, bal(3, 2))
	wantNoPromise(t, p, 2, bal(3, 1)) // it asks no more
	wantStep(t, p, bal(lastN, 0))
	wantStep(t, p, bal(lastN, 6))
	wantNoStep(t, p, bal(lastN, 6))
}

func TestStepOfOneThatLeads(t *testing.T) {
	p := leader(t, 3, 1, 4, vote(5, 0, 0, "x"))
	wantNoStep(t, p, bal(1, 1))
	wantNoStep(t, p, bal(1, 0))
	wantNoStep(t, p, bal(0, 6))
	wantFilled(t, p, vote(4, 1, 1, ""), vote(5, 1, 1, "x"))
	wantPropose(t, p, "y", vote(6, 1, 1, "y"))
	wantStep(t, p, bal(1, 2))
	wantNoPropose(t, p, "y", api.ErrState)
	wantNoPromise(t, p, 2, bal(1, 1))
	wantNoPromise(t, p, 2, bal(1, 2))
	wantFill(t, p)
	wantLead(t, p, bal(0, 0), 0, bal(2, 1))
	wantPromise(t, p, 0, bal(2, 1), false)
	wantPromise(t, p, 1, bal(2, 1), true)
	wantFilled(t, p)
}

func TestStepRefusesBallots(t *testing.T) {
	p := node(t, 1, 0)
	q := leader(t, 1, 0, 0)
	for _, b := range badBallots() {
		wantNoStep(t, p, b)
		wantNoStep(t, q, b)
	}
	wantLead(t, p, bal(0, 0), 0, bal(1, 0)) // its ballot is as it was
	wantPropose(t, q, "x", vote(0, 1, 0, "x"))
}

func TestNil(t *testing.T) {
	var p *proposer.Proposer
	wantNoLead(t, p, bal(0, 0), 0, api.ErrArg)
	wantNoLead(t, p, bal(lastN, 0), 0, api.ErrArg)
	wantNoPromise(t, p, 0, bal(0, 0))
	wantNoPropose(t, p, "x", api.ErrArg)
	wantNoPropose(t, p, strings.Repeat("v", mostBody+1), api.ErrArg)
	wantNoStep(t, p, bal(1, 0))
	wantFill(t, p)
	wantState(t, p, false, 0)
}

func shares(a, b string) bool {
	return len(a) > 0 && len(b) > 0 && unsafe.StringData(a) == unsafe.StringData(b)
}

func TestAnswersAreNewMemory(t *testing.T) {
	value := strings.Clone("a value")
	p := leader(t, 1, 0, 0, vote(0, 0, 0, value), vote(1, 0, 0, value))
	l := p.Fill()
	v, _ := p.Propose(value)
	w, _ := p.Propose(value)
	all := []string{value, l[0].Value, l[1].Value, v.Value, w.Value}
	for i, a := range all {
		if a != "a value" {
			t.Errorf("%d: %q", i, a)
		}
		for j, b := range all[:i] {
			if shares(a, b) {
				t.Errorf("%d and %d share the text of a value", i, j)
			}
		}
	}
	l[0] = vote(9, 9, 9, "spoilt")
	_ = append(l[:1], vote(9, 9, 9, "spoilt"))
	wantFill(t, p)
	wantState(t, p, true, 4)
}

// What is handed in is not changed, what lies behind its end, too, and what is done to it then is not seen.
func TestWhatIsHandedIn(t *testing.T) {
	was := []api.Vote{vote(3, 0, 0, "three"), vote(2, 0, 0, "two"), vote(3, 0, 1, "other"), vote(9, 0, 1, "behind")}
	l := slices.Clone(was)
	p := leader(t, 1, 0, 2, l[:3]...)
	if !slices.Equal(l, was) {
		t.Errorf("what was handed in is %s now", brief(l...))
	}
	clear(l)
	wantFilled(t, p, vote(2, 1, 0, "two"), vote(3, 1, 0, "other"))
}

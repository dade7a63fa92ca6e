package replica_test

import (
	"fmt"
	"math"
	"slices"
	"strings"
	"testing"
	"unsafe"

	"hurdle/api"
	"hurdle/replica"
)

const (
	lastN     = 1<<31 - 1
	maxLog    = 1024
	mostBody  = 4096
	mostNodes = 7
	mostTold  = 8
)

func bal(n, node int) api.Ballot { return api.Ballot{N: n, Node: node} }

func vote(slot, n, node int, value string) api.Vote {
	return api.Vote{Slot: slot, Ballot: bal(n, node), Value: value}
}

// fact is a vote as it is told: without a ballot.
func fact(slot int, value string) api.Vote { return api.Vote{Slot: slot, Value: value} }

func facts(slot int, values ...string) []api.Vote {
	var all []api.Vote
	for i, value := range values {
		all = append(all, fact(slot+i, value))
	}
	return all
}

func prepare(from, to, slot int, b api.Ballot) api.Note {
	return api.Note{Kind: 1, From: from, To: to, Slot: slot, Ballot: b}
}

func promise(from, to int, b api.Ballot, l ...api.Vote) api.Note {
	return api.Note{Kind: 2, From: from, To: to, Ballot: b, Votes: l}
}

func accept(from, to int, l ...api.Vote) api.Note {
	return api.Note{Kind: 3, From: from, To: to, Votes: l}
}

func voted(from, to int, l ...api.Vote) api.Note {
	return api.Note{Kind: 4, From: from, To: to, Votes: l}
}

func ask(from, to, slot int) api.Note {
	return api.Note{Kind: 5, From: from, To: to, Slot: slot}
}

func tell(from, to int, l ...api.Vote) api.Note {
	return api.Note{Kind: 6, From: from, To: to, Votes: l}
}

// prepares are those to each of n nodes, in order.
func prepares(n, from, slot int, b api.Ballot) []api.Note {
	var all []api.Note
	for to := range n {
		all = append(all, prepare(from, to, slot, b))
	}
	return all
}

// accepts are those of each vote to each of n nodes, vote by vote.
func accepts(n, from int, l ...api.Vote) []api.Note {
	var all []api.Note
	for _, v := range l {
		for to := range n {
			all = append(all, accept(from, to, v))
		}
	}
	return all
}

func voteds(n, from int, v api.Vote) []api.Note {
	var all []api.Note
	for to := range n {
		all = append(all, voted(from, to, v))
	}
	return all
}

// badBallots are those that nobody may lead by.
func badBallots() []api.Ballot {
	return []api.Ballot{bal(-1, 0), bal(-1, 6), bal(9, -1), bal(0, 7), bal(9, 7), bal(lastN, 7), bal(lastN+1, 0),
		bal(1<<32+5, 0), bal(9, 1<<32), bal(math.MinInt, 0), bal(math.MaxInt, 0), bal(9, math.MinInt), bal(9, math.MaxInt)}
}

// badSlots are those that no log has.
func badSlots() []int {
	return []int{-1, -maxLog, maxLog, maxLog + 1, 1 << 32, 1<<32 + 3, math.MinInt, math.MinInt + 1, math.MaxInt}
}

// badNodes are those that no group of n nodes has.
func badNodes(n int) []int {
	return []int{-1, -n, n, n + 1, mostNodes, 64, 1 << 32, -1 << 32, math.MinInt, math.MaxInt}
}

// short tells a value, of a long one its length alone.
func short(value string) string {
	if len(value) > 20 {
		return fmt.Sprint(len(value), " bytes")
	}
	return fmt.Sprintf("%q", value)
}

func shorts(l []string) string {
	var parts []string
	for _, value := range l {
		parts = append(parts, short(value))
	}
	return "[" + strings.Join(parts, ", ") + "]"
}

func brief(l ...api.Note) string {
	var parts []string
	for _, x := range l {
		s := fmt.Sprintf("kind %d, %d to %d, slot %d, ballot %d.%d", x.Kind, x.From, x.To, x.Slot, x.Ballot.N, x.Ballot.Node)
		for _, v := range x.Votes {
			s += fmt.Sprintf(", %d by %d.%d: %s", v.Slot, v.Ballot.N, v.Ballot.Node, short(v.Value))
		}
		parts = append(parts, "("+s+")")
	}
	return "[" + strings.Join(parts, ", ") + "]"
}

func sameNote(a, b api.Note) bool {
	return a.Kind == b.Kind && a.From == b.From && a.To == b.To && a.Slot == b.Slot && a.Ballot == b.Ballot && slices.Equal(a.Votes, b.Votes)
}

func wantNotes(t *testing.T, what string, got, want []api.Note) {
	t.Helper()
	if !slices.EqualFunc(got, want, sameNote) {
		t.Errorf("%s: %s, want %s", what, brief(got...), brief(want...))
	}
}

func wantTake(t *testing.T, r *replica.Replica, x api.Note, want ...api.Note) {
	t.Helper()
	wantNotes(t, "Take of "+brief(x), r.Take(x), want)
}

// wantIgnored is for notes that change nothing that is told.
func wantIgnored(t *testing.T, r *replica.Replica, l ...api.Note) {
	t.Helper()
	for _, x := range l {
		leads, next, log := r.Leads(), r.Next(), r.Log()
		wantTake(t, r, x)
		wantState(t, r, leads, next, log...)
	}
}

func wantState(t *testing.T, r *replica.Replica, leads bool, next int, log ...string) {
	t.Helper()
	if r.Leads() != leads || r.Next() != next {
		t.Errorf("leads %v, next %d, want %v, %d", r.Leads(), r.Next(), leads, next)
	}
	if got := r.Log(); !slices.Equal(got, log) {
		t.Errorf("the log is %s, want %s", shorts(got), shorts(log))
	}
}

// wantPromised is for node me, whose acceptor's promise is just b and has these votes from the slot on. Its proposer gives way to b.
func wantPromised(t *testing.T, r *replica.Replica, me, slot int, b api.Ballot, l ...api.Vote) {
	t.Helper()
	for _, less := range []api.Ballot{bal(b.N, b.Node-1), bal(b.N-1, 6)} {
		wantTake(t, r, prepare(0, me, slot, less))
	}
	wantTake(t, r, prepare(0, me, slot, b), promise(me, 0, b, l...))
}

func wantNoPropose(t *testing.T, r *replica.Replica, value string, want api.Errno) {
	t.Helper()
	leads, next := r.Leads(), r.Next()
	if l, err := r.Propose(value); len(l) > 0 || err != want {
		t.Errorf("Propose of %d bytes: %s, %d, want none, %d", len(value), brief(l...), err, want)
	}
	if r.Leads() != leads || r.Next() != next {
		t.Errorf("leads %v, next %d, it was %v, %d", r.Leads(), r.Next(), leads, next)
	}
}

func wantPropose(t *testing.T, r *replica.Replica, value string, want ...api.Note) {
	t.Helper()
	l, err := r.Propose(value)
	if err != api.OK {
		t.Errorf("Propose of %d bytes: %d", len(value), err)
	}
	wantNotes(t, "Propose", l, want)
}

func wantTrim(t *testing.T, r *replica.Replica, upto, want int) {
	t.Helper()
	leads, next := r.Leads(), r.Next()
	if got := r.Trim(upto); got != want {
		t.Errorf("Trim(%d): %d, want %d", upto, got, want)
	}
	if r.Leads() != leads || r.Next() != next {
		t.Errorf("Trim(%d): leads %v, next %d, it was %v, %d", upto, r.Leads(), r.Next(), leads, next)
	}
}

func node(t *testing.T, n, me int) *replica.Replica {
	t.Helper()
	r := replica.New(n, me)
	if r == nil {
		t.Fatalf("New(%d, %d): nil", n, me)
	}
	return r
}

// knows is node me of n that was told these values, from slot 0 on.
func knows(t *testing.T, n, me int, values ...string) *replica.Replica {
	t.Helper()
	r := node(t, n, me)
	wantTake(t, r, tell(me, me, facts(0, values...)...))
	wantState(t, r, false, len(values), values...)
	return r
}

// leader is node me of n that leads by the ballot {1, me} behind the promises of the first nodes; it knows the values.
func leader(t *testing.T, n, me int, values ...string) *replica.Replica {
	t.Helper()
	r := knows(t, n, me, values...)
	wantNotes(t, "Lead", r.Lead(), prepares(n, me, len(values), bal(1, me)))
	for from := range n/2 + 1 {
		wantTake(t, r, promise(from, me, bal(1, me)))
	}
	wantState(t, r, true, len(values), values...)
	return r
}

// many are values that are told apart.
func many(n int) []string {
	var all []string
	for i := range n {
		all = append(all, fmt.Sprint("value ", i))
	}
	return all
}

func TestNew(t *testing.T) {
	edges := []int{math.MinInt, -1 << 32, -1, 0, 1, 2, 3, 4, 5, 6, 7, 8, 1 << 32, 1<<32 + 3, math.MaxInt}
	for _, n := range edges {
		for _, me := range edges {
			r := replica.New(n, me)
			want := n >= 1 && n <= mostNodes && me >= 0 && me < n
			if (r != nil) != want {
				t.Errorf("New(%d, %d): one is there %v, want %v", n, me, r != nil, want)
			}
			if r != nil {
				wantState(t, r, false, 0)
				wantNoPropose(t, r, "x", api.ErrState)
				wantPromised(t, r, me, 0, bal(0, 0))
			}
		}
	}
}

func TestReplicasAreApart(t *testing.T) {
	a, b := leader(t, 3, 1, "x"), node(t, 3, 1)
	wantTake(t, a, accept(1, 1, vote(1, 1, 1, "y")), voteds(3, 1, vote(1, 1, 1, "y"))...)
	wantState(t, b, false, 0)
	wantPromised(t, b, 1, 0, bal(0, 0))
	wantState(t, a, true, 1, "x")
}

// The chapter's example.
func TestNodeAlone(t *testing.T) {
	g := newGroup(t, 1, 0)
	r := g.nodes[0]
	g.say(r.Lead())
	g.settle()
	wantState(t, r, true, 0)
	values := []string{"one", "", "three"}
	for i, value := range values {
		if !g.propose(0, value) {
			t.Errorf("Propose of %s is refused", short(value))
		}
		g.settle()
		wantState(t, r, true, i+1, values[:i+1]...)
	}
}

func TestLead(t *testing.T) {
	for n := 1; n <= mostNodes; n++ {
		for me := range n {
			r := node(t, n, me)
			wantNotes(t, "Lead", r.Lead(), prepares(n, me, 0, bal(1, me)))
			wantState(t, r, false, 0)
			wantNotes(t, "Lead", r.Lead(), prepares(n, me, 0, bal(2, me)))
		}
	}
}

// The ballot goes beyond the acceptor's promise, whatever made that.
func TestLeadAboveThePromise(t *testing.T) {
	r := node(t, 5, 3)
	wantTake(t, r, prepare(4, 3, 0, bal(5, 4)), promise(3, 4, bal(5, 4)))
	wantNotes(t, "Lead", r.Lead(), prepares(5, 3, 0, bal(6, 3)))
	wantTake(t, r, accept(0, 3, vote(2, 9, 0, "x")), voteds(5, 3, vote(2, 9, 0, "x"))...)
	wantNotes(t, "Lead", r.Lead(), prepares(5, 3, 0, bal(10, 3)))
	wantTake(t, r, prepare(4, 3, 0, bal(20, 1)), promise(3, 4, bal(20, 1), vote(2, 9, 0, "x")))
	r.Crash() // the acceptor alone knows that now
	wantNotes(t, "Lead", r.Lead(), prepares(5, 3, 0, bal(21, 3)))
}

// The slots that are asked are those from the learner's Next on.
func TestLeadFromNext(t *testing.T) {
	r := knows(t, 3, 1, "a", "b", "c")
	wantTake(t, r, tell(0, 1, fact(5, "behind a gap")))
	wantNotes(t, "Lead", r.Lead(), prepares(3, 1, 3, bal(1, 1)))
	wantTrim(t, r, 2, 2)
	wantNotes(t, "Lead", r.Lead(), prepares(3, 1, 3, bal(2, 1)))
	wantTake(t, r, tell(0, 1, facts(3, "d", "e")...))
	wantNotes(t, "Lead", r.Lead(), prepares(3, 1, 6, bal(3, 1)))
	for from := range 2 { // votes of slots that were not asked do not count
		wantTake(t, r, promise(from, 1, bal(3, 1), vote(5, 2, 0, "x")))
	}
	wantPropose(t, r, "g", accepts(3, 1, vote(6, 3, 1, "g"))...)
}

// Its own acceptor promises at once, ahead of any note.
func TestLeadPromises(t *testing.T) {
	r := node(t, 3, 1)
	r.Lead()
	wantPromised(t, r, 1, 0, bal(1, 1))
	wantIgnored(t, r, accept(0, 1, vote(0, 1, 0, "less")))
	r.Crash()
	wantPromised(t, r, 1, 0, bal(1, 1))
	wantNotes(t, "Lead", r.Lead(), prepares(3, 1, 0, bal(2, 1)))
	r.Crash()
	r.Crash()
	wantNotes(t, "Lead", r.Lead(), prepares(3, 1, 0, bal(3, 1)))
}

// That its acceptor promised does not count as a promise to the proposer yet: that goes through notes.
func TestLeadAsksItself(t *testing.T) {
	r := node(t, 1, 0)
	l := r.Lead()
	wantState(t, r, false, 0)
	l = r.Take(l[0])
	wantNotes(t, "Take of what is to itself", l, []api.Note{promise(0, 0, bal(1, 0))})
	wantState(t, r, false, 0)
	wantTake(t, r, l[0])
	wantState(t, r, true, 0)
}

func TestLeadAgain(t *testing.T) {
	r := leader(t, 3, 2)
	wantNotes(t, "Lead", r.Lead(), prepares(3, 2, 0, bal(2, 2)))
	wantState(t, r, false, 0)
	wantNoPropose(t, r, "x", api.ErrState)
	wantTake(t, r, promise(0, 2, bal(1, 2)))
	wantTake(t, r, promise(0, 2, bal(2, 2)))
	wantTake(t, r, promise(1, 2, bal(1, 2)))
	wantState(t, r, false, 0)
	wantTake(t, r, promise(1, 2, bal(2, 2)))
	wantState(t, r, true, 0)
}

// There is no greater number: nothing is done, neither by the proposer nor by the acceptor.
func TestLeadIsFull(t *testing.T) {
	r := node(t, 3, 1)
	wantTake(t, r, prepare(0, 1, 0, bal(lastN-1, 6)), promise(1, 0, bal(lastN-1, 6)))
	wantNotes(t, "Lead", r.Lead(), prepares(3, 1, 0, bal(lastN, 1)))
	wantTake(t, r, promise(0, 1, bal(lastN, 1)))
	wantNotes(t, "Lead", r.Lead(), nil)
	wantTake(t, r, promise(2, 1, bal(lastN, 1))) // it asks as ahead
	wantState(t, r, true, 0)
	wantNotes(t, "Lead", r.Lead(), nil)
	wantState(t, r, true, 0)
	wantPromised(t, r, 1, 0, bal(lastN, 1))
	wantPropose(t, r, "x", accepts(3, 1, vote(0, lastN, 1, "x"))...)
}

// The log has no slot left: nothing is done, too.
func TestLeadOfFullLog(t *testing.T) {
	r := leader(t, 3, 1, many(maxLog-1)...)
	wantTake(t, r, tell(0, 1, fact(maxLog-1, "last")))
	wantNotes(t, "Lead", r.Lead(), nil)
	wantState(t, r, true, maxLog, append(many(maxLog-1), "last")...)
	wantPromised(t, r, 1, maxLog-1, bal(1, 1))
	wantPropose(t, r, "x", accepts(3, 1, vote(maxLog-1, 1, 1, "x"))...) // its proposer was not told
	wantNoPropose(t, r, "x", api.ErrFull)
	wantTrim(t, r, maxLog, maxLog)
	wantNotes(t, "Lead", r.Lead(), nil)
	r.Crash()
	wantState(t, r, false, maxLog)
	wantNotes(t, "Lead", r.Lead(), nil)
	one := knows(t, 3, 1, many(maxLog-1)...)
	wantNotes(t, "Lead", one.Lead(), prepares(3, 1, maxLog-1, bal(1, 1)))
}

func TestPropose(t *testing.T) {
	for n := 1; n <= mostNodes; n++ {
		for me := range n {
			r := leader(t, n, me, "a", "b")
			wantPropose(t, r, "c", accepts(n, me, vote(2, 1, me, "c"))...)
			wantPropose(t, r, "", accepts(n, me, vote(3, 1, me, ""))...)
			wantState(t, r, true, 2, "a", "b")
		}
	}
}

func TestProposeOfLongValues(t *testing.T) {
	r := leader(t, 3, 0)
	long := strings.Repeat("v", mostBody)
	for _, value := range []string{long + "v", strings.Repeat("v", 1<<20), strings.Repeat("\u20ac", mostBody/3+1)} {
		wantNoPropose(t, r, value, api.ErrSize)
	}
	wantPropose(t, r, long, accepts(3, 0, vote(0, 1, 0, long))...)
	wantPropose(t, r, "\x00\xff\xfe", accepts(3, 0, vote(1, 1, 0, "\x00\xff\xfe"))...)
}

func TestProposeWithoutLeading(t *testing.T) {
	r := node(t, 3, 2)
	wantNoPropose(t, r, "x", api.ErrState)
	r.Lead()
	wantNoPropose(t, r, "x", api.ErrState)
	wantTake(t, r, promise(0, 2, bal(1, 2)))
	wantNoPropose(t, r, "x", api.ErrState)
	wantTake(t, r, promise(1, 2, bal(1, 2)))
	wantPropose(t, r, "x", accepts(3, 2, vote(0, 1, 2, "x"))...)
	r.Crash()
	wantNoPropose(t, r, "x", api.ErrState)
}

func TestProposeTillTheEnd(t *testing.T) {
	r := leader(t, 1, 0, many(maxLog-2)...)
	wantPropose(t, r, "x", accept(0, 0, vote(maxLog-2, 1, 0, "x")))
	wantPropose(t, r, "y", accept(0, 0, vote(maxLog-1, 1, 0, "y")))
	wantNoPropose(t, r, "z", api.ErrFull)
	wantNoPropose(t, r, "", api.ErrFull)
	wantNoPropose(t, r, strings.Repeat("z", mostBody+1), api.ErrSize) // the least of two errors
}

func TestAsk(t *testing.T) {
	for n := 1; n <= mostNodes; n++ {
		for me := range n {
			r := knows(t, n, me, "a", "b", "c")
			for to := range n { // itself, too
				wantNotes(t, "Ask", r.Ask(to), []api.Note{ask(me, to, 3)})
			}
			for _, to := range badNodes(n) {
				wantNotes(t, "Ask", r.Ask(to), nil)
			}
		}
	}
	r := node(t, 3, 1)
	wantNotes(t, "Ask", r.Ask(0), []api.Note{ask(1, 0, 0)})
	wantTake(t, r, tell(0, 1, fact(1, "behind a gap")))
	wantNotes(t, "Ask", r.Ask(0), []api.Note{ask(1, 0, 0)})
	wantTake(t, r, tell(0, 1, fact(0, "a")))
	wantNotes(t, "Ask", r.Ask(0), []api.Note{ask(1, 0, 2)})
	wantTrim(t, r, 2, 2)
	wantNotes(t, "Ask", r.Ask(0), []api.Note{ask(1, 0, 2)})
	wantNotes(t, "Ask", knows(t, 3, 1, many(maxLog)...).Ask(2), []api.Note{ask(1, 2, maxLog)})
}

func TestTrim(t *testing.T) {
	r := knows(t, 3, 1, "a", "b", "c", "d")
	wantTake(t, r, tell(0, 1, fact(5, "behind a gap")))
	for _, upto := range []int{0, -1, -maxLog, math.MinInt} {
		wantTrim(t, r, upto, 0)
	}
	wantState(t, r, false, 4, "a", "b", "c", "d")
	wantTrim(t, r, 1, 1)
	wantState(t, r, false, 4, "b", "c", "d")
	wantTrim(t, r, 3, 2)
	wantTrim(t, r, 3, 0)
	wantTrim(t, r, 1, 0)
	wantState(t, r, false, 4, "d")
	wantTrim(t, r, math.MaxInt, 1) // at most Next
	wantTrim(t, r, 5, 0)
	wantState(t, r, false, 4)
	wantTake(t, r, tell(0, 1, fact(4, "e")))
	wantState(t, r, false, 6, "e", "behind a gap")
}

// The acceptor's votes go to the learner's base, and no farther; how many they were is not told.
func TestTrimOfVotes(t *testing.T) {
	r := knows(t, 3, 1, "a", "b", "c", "d")
	for _, slot := range []int{0, 2, 3, 4, 9} {
		wantTake(t, r, accept(0, 1, vote(slot, 1, 0, "x")), voteds(3, 1, vote(slot, 1, 0, "x"))...)
	}
	wantTrim(t, r, 3, 3)
	wantIgnored(t, r, prepare(0, 1, 0, bal(1, 0)), prepare(0, 1, 2, bal(1, 0)), accept(0, 1, vote(2, 1, 0, "y")))
	wantPromised(t, r, 1, 3, bal(1, 0), vote(3, 1, 0, "x"), vote(4, 1, 0, "x"), vote(9, 1, 0, "x"))
	wantTrim(t, r, maxLog, 1) // the learner's base is 4 then, and so is the acceptor's
	wantIgnored(t, r, prepare(0, 1, 3, bal(1, 0)), accept(0, 1, vote(3, 1, 0, "y")))
	wantPromised(t, r, 1, 4, bal(1, 0), vote(4, 1, 0, "x"), vote(9, 1, 0, "x"))
	wantTake(t, r, accept(0, 1, vote(4, 1, 0, "y")), voteds(3, 1, vote(4, 1, 0, "y"))...)
}

// A Trim that lets nothing go leaves the acceptor's votes, too.
func TestTrimOfNothing(t *testing.T) {
	r := node(t, 3, 1)
	wantTake(t, r, accept(0, 1, vote(0, 1, 0, "x")), voteds(3, 1, vote(0, 1, 0, "x"))...)
	for _, upto := range []int{1, maxLog, math.MaxInt, -1} {
		wantTrim(t, r, upto, 0)
	}
	wantPromised(t, r, 1, 0, bal(1, 0), vote(0, 1, 0, "x"))
}

// One that leads does so behind a Trim.
func TestTrimOfLeader(t *testing.T) {
	r := leader(t, 3, 1, "a", "b")
	wantTrim(t, r, 2, 2)
	wantState(t, r, true, 2)
	wantPropose(t, r, "c", accepts(3, 1, vote(2, 1, 1, "c"))...)
}

func TestCrash(t *testing.T) {
	r := leader(t, 3, 1, "a", "b")
	v := vote(2, 1, 1, "c")
	wantTake(t, r, accept(1, 1, v), voteds(3, 1, v)...)
	wantTake(t, r, voted(0, 1, v))
	r.Crash()
	wantState(t, r, false, 0)
	wantNoPropose(t, r, "x", api.ErrState)
	wantPromised(t, r, 1, 0, bal(1, 1), v)
	wantTake(t, r, voted(2, 1, v)) // what was heard ahead is no more
	wantIgnored(t, r, promise(0, 1, bal(1, 1)), promise(2, 1, bal(1, 1)))
	wantTake(t, r, tell(0, 1, facts(0, "a", "b")...))
	wantState(t, r, false, 2, "a", "b")
	wantTake(t, r, voted(1, 1, v))
	wantState(t, r, false, 3, "a", "b", "c")
}

// A proposer that asks is new, too: promises to it come too late.
func TestCrashOfOneThatAsks(t *testing.T) {
	r := node(t, 3, 1)
	r.Lead()
	wantTake(t, r, promise(0, 1, bal(1, 1)))
	r.Crash()
	wantIgnored(t, r, promise(1, 1, bal(1, 1)), promise(2, 1, bal(1, 1)), promise(1, 1, bal(0, 0)))
	wantNotes(t, "Lead", r.Lead(), prepares(3, 1, 0, bal(2, 1)))
}

// The new learner's base is the acceptor's, wherever that is.
func TestCrashBehindTrim(t *testing.T) {
	for _, base := range []int{1, 2, 7, 8, 9, 100, maxLog - 1, maxLog} {
		for _, beyond := range []int{0, 1, 3} {
			values := many(min(base+beyond, maxLog))
			r := knows(t, 3, 1, values...)
			wantTrim(t, r, base, base)
			wantState(t, r, false, len(values), values[base:]...)
			for range 2 {
				r.Crash()
				wantState(t, r, false, base)
			}
			wantTake(t, r, ask(0, 1, 0))
			wantTake(t, r, ask(0, 1, base-1))
			wantIgnored(t, r, tell(0, 1, fact(base-1, "x")), accept(0, 1, vote(base-1, 9, 0, "x")))
			if base < maxLog {
				wantTake(t, r, tell(0, 1, fact(base, "x")))
				wantState(t, r, false, base+1, "x")
				wantTake(t, r, ask(0, 1, base), tell(1, 0, fact(base, "x")))
				wantTrim(t, r, maxLog, 1)
			}
		}
	}
}

// What was promised stays over crashes, also of others' ballots, and so do votes.
func TestCrashLeavesTheAcceptor(t *testing.T) {
	r := node(t, 3, 1)
	wantTake(t, r, accept(0, 1, vote(3, 4, 0, "x")), voteds(3, 1, vote(3, 4, 0, "x"))...)
	wantTake(t, r, prepare(2, 1, 4, bal(7, 2)), promise(1, 2, bal(7, 2)))
	r.Crash()
	r.Crash()
	wantIgnored(t, r, accept(0, 1, vote(3, 4, 0, "y")))
	wantPromised(t, r, 1, 0, bal(7, 2), vote(3, 4, 0, "x"))
}

func TestLogNextLeads(t *testing.T) {
	r := node(t, 1, 0)
	wantState(t, r, false, 0)
	wantTake(t, r, tell(0, 0, fact(1, "b"), fact(2, "")))
	wantState(t, r, false, 0)
	wantTake(t, r, tell(0, 0, fact(0, "a")))
	wantState(t, r, false, 3, "a", "b", "")
	r.Lead()
	wantTake(t, r, promise(0, 0, bal(1, 0)))
	wantState(t, r, true, 3, "a", "b", "")
	wantTake(t, r, voted(0, 0, vote(4, 1, 0, "e")))
	wantState(t, r, true, 3, "a", "b", "")
	wantTake(t, r, voted(0, 0, vote(3, 1, 0, "d")))
	wantState(t, r, true, 5, "a", "b", "", "d", "e")
	wantTrim(t, r, 4, 4)
	wantState(t, r, true, 5, "e")
}

func TestNil(t *testing.T) {
	var r *replica.Replica
	r.Crash()
	for range 2 {
		wantNotes(t, "Lead", r.Lead(), nil)
		for _, value := range []string{"", "x", strings.Repeat("x", mostBody+1)} {
			if l, err := r.Propose(value); len(l) > 0 || err != api.ErrArg {
				t.Errorf("Propose of %d bytes: %s, %d, want none, %d", len(value), brief(l...), err, api.ErrArg)
			}
		}
		for _, x := range someNotes(0, 0) {
			wantTake(t, r, x)
		}
		wantNotes(t, "Ask", r.Ask(0), nil)
		if got := r.Trim(1); got != 0 {
			t.Errorf("Trim(1): %d, want 0", got)
		}
		wantState(t, r, false, 0)
	}
}

// texts are the values of notes, and where their votes stand.
func texts(l []api.Note) (values []string, votes []*api.Vote) {
	for _, x := range l {
		for i := range x.Votes {
			values = append(values, x.Votes[i].Value)
			votes = append(votes, &x.Votes[i])
		}
	}
	return values, votes
}

// wantApart is for notes that share no memory, neither with one another nor with what was handed in.
func wantApart(t *testing.T, what string, l []api.Note, in ...string) {
	t.Helper()
	values, votes := texts(l)
	if len(values) == 0 {
		t.Errorf("%s: there is nothing to ask", what)
	}
	all := append(values, in...)
	for i, a := range all {
		for j, b := range all[:i] {
			if len(a) > 0 && len(b) > 0 && unsafe.StringData(a) == unsafe.StringData(b) {
				t.Errorf("%s: values %d and %d share their bytes", what, i, j)
			}
		}
	}
	for i, a := range votes {
		if slices.Contains(votes[:i], a) {
			t.Errorf("%s: two notes share their votes", what)
		}
	}
}

func TestAnswersAreNewMemory(t *testing.T) {
	r, value := leader(t, 3, 1), strings.Clone("a value")
	l, _ := r.Propose(value)
	wantApart(t, "Propose", l, value)
	wantApart(t, "NoteAccept", r.Take(accept(0, 1, vote(0, 1, 1, value))), value)
	wantApart(t, "NotePrepare", append(r.Take(prepare(0, 1, 0, bal(1, 1))), r.Take(prepare(0, 1, 0, bal(1, 1)))...), value)
	wantTake(t, r, tell(0, 1, fact(0, value)))
	wantApart(t, "NoteAsk", append(r.Take(ask(0, 1, 0)), r.Take(ask(0, 1, 0))...), append(r.Log(), value)...)
	r.Crash()
	r.Lead()
	wantTake(t, r, promise(0, 1, bal(2, 1), vote(0, 1, 1, value)))
	wantApart(t, "NotePromise", r.Take(promise(2, 1, bal(2, 1), vote(1, 1, 1, value))), value)
}

// What is done to an answer or to what was handed in changes nothing that is kept.
func TestNothingIsShared(t *testing.T) {
	r := leader(t, 3, 1)
	in := []api.Vote{vote(0, 1, 1, "x"), vote(9, 9, 6, "behind the end")}
	for _, x := range []api.Note{accept(0, 1, in[:1]...), prepare(0, 1, 0, bal(1, 1)), tell(0, 1, in[:1]...), ask(0, 1, 0)} {
		want := r.Take(x)
		for _, y := range r.Take(x) {
			for i := range y.Votes {
				y.Votes[i] = vote(7, 7, 7, "spoilt")
			}
			_ = append(y.Votes, vote(8, 8, 8, "spoilt"))
		}
		if x.Kind != api.NoteTell {
			wantNotes(t, "Take of "+brief(x), r.Take(x), want)
		}
		if want := []api.Vote{vote(0, 1, 1, "x"), vote(9, 9, 6, "behind the end")}; !slices.Equal(in, want) {
			t.Errorf("Take changed what was handed in: %v", in)
		}
	}
	in[0] = vote(0, 1, 1, "spoilt")
	log := r.Log()
	log[0] = "spoilt"
	wantState(t, r, true, 1, "x")
	wantPromised(t, r, 1, 0, bal(1, 1), vote(0, 1, 1, "x"))
}

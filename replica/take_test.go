package replica_test

import (
	"math"
	"strings"
	"testing"

	"hurdle/api"
	"hurdle/replica"
)

// someNotes are one of each kind, which a node that asks by {1, 1} and knows slot 0 would answer or learn from.
func someNotes(from, to int) []api.Note {
	return []api.Note{
		prepare(from, to, 1, bal(5, 0)),
		promise(from, to, bal(1, 1), vote(1, 0, 0, "x")),
		accept(from, to, vote(1, 5, 0, "x")),
		voted(from, to, vote(1, 5, 0, "x")),
		ask(from, to, 0),
		tell(from, to, fact(1, "x")),
	}
}

// asker is node 1 of n that knows "a" and asks by {1, 1}.
func asker(t *testing.T, n int) *replica.Replica {
	t.Helper()
	r := knows(t, n, 1, "a")
	wantNotes(t, "Lead", r.Lead(), prepares(n, 1, 1, bal(1, 1)))
	return r
}

// Notes to others are nothing, and so are those from nobody: neither is something done.
func TestTakeRefusesNodes(t *testing.T) {
	for n := 2; n <= mostNodes; n++ {
		r := asker(t, n)
		for _, bad := range append(badNodes(n), 0) {
			wantIgnored(t, r, someNotes(0, bad)...)
			wantIgnored(t, r, someNotes(1, bad)...)
		}
		for _, bad := range badNodes(n) {
			wantIgnored(t, r, someNotes(bad, 1)...)
			wantIgnored(t, r, someNotes(bad, bad)...)
		}
		for from := n - 1; from > 0; from-- { // no promise counted, no greater ballot was seen
			wantTake(t, r, promise(from, 1, bal(1, 1)))
			wantState(t, r, n-from >= n/2+1, 1, "a")
		}
		wantPromised(t, r, 1, 0, bal(1, 1))
	}
}

// The notes of someNotes are such that each one does something.
func TestTakeOfEachKind(t *testing.T) {
	for from := range 3 {
		for kind, x := range someNotes(from, 1) {
			r := asker(t, 3)
			l := r.Take(x)
			lead := r.Lead()
			asked, next := lead[0].Ballot, r.Next()
			want := []struct{ notes, next, n int }{{1, 1, 6}, {0, 1, 2}, {3, 1, 6}, {0, 1, 2}, {1, 1, 2}, {0, 2, 2}}[kind]
			if len(l) != want.notes || next != want.next || asked != bal(want.n, 1) {
				t.Errorf("Take of %s: %s, next %d, then it asks by %v", brief(x), brief(l...), next, asked)
			}
		}
	}
}

func TestTakeOfOtherKinds(t *testing.T) {
	r := asker(t, 3)
	for _, kind := range []int{0, -1, 7, 8, 64, 1 << 32, 1<<32 + 1, 1<<32 + 6, -6, math.MinInt, math.MaxInt} {
		x := api.Note{Kind: kind, From: 0, To: 1, Slot: 1, Ballot: bal(1, 1), Votes: []api.Vote{vote(1, 1, 1, "x")}}
		wantIgnored(t, r, x, x)
		x.Ballot, x.Votes[0].Ballot, x.From = bal(9, 0), bal(9, 0), 2
		wantIgnored(t, r, x, x)
	}
	wantTake(t, r, promise(0, 1, bal(1, 1)))
	wantTake(t, r, promise(2, 1, bal(1, 1)))
	wantState(t, r, true, 1, "a")
	wantPromised(t, r, 1, 0, bal(1, 1))
}

func TestPrepare(t *testing.T) {
	for n := 1; n <= mostNodes; n++ {
		for me := range n {
			r := node(t, n, me)
			wantTake(t, r, accept(0, me, vote(4, 1, 0, "x")), voteds(n, me, vote(4, 1, 0, "x"))...)
			wantTake(t, r, accept(0, me, vote(2, 1, 6, "y")), voteds(n, me, vote(2, 1, 6, "y"))...)
			for from := range n { // itself, too; the answer goes to who said it, whose ballot ever it is
				b := bal(2+from, 6)
				wantTake(t, r, prepare(from, me, 0, b), promise(me, from, b, vote(2, 1, 6, "y"), vote(4, 1, 0, "x")))
				wantTake(t, r, prepare(from, me, 2, b), promise(me, from, b, vote(2, 1, 6, "y"), vote(4, 1, 0, "x")))
				wantTake(t, r, prepare(from, me, 3, b), promise(me, from, b, vote(4, 1, 0, "x")))
				wantTake(t, r, prepare(from, me, 5, b), promise(me, from, b))
				wantTake(t, r, prepare(from, me, maxLog-1, b), promise(me, from, b))
			}
			wantState(t, r, false, 0)
		}
	}
}

func TestPrepareOfBallots(t *testing.T) {
	r := node(t, 3, 1)
	wantTake(t, r, prepare(0, 1, 0, bal(0, 0)), promise(1, 0, bal(0, 0)))
	wantTake(t, r, prepare(0, 1, 0, bal(5, 3)), promise(1, 0, bal(5, 3)))
	for _, b := range append(badBallots(), bal(0, 0), bal(4, 6), bal(5, 2)) {
		wantIgnored(t, r, prepare(0, 1, 0, b))
	}
	wantTake(t, r, prepare(0, 1, 0, bal(5, 3)), promise(1, 0, bal(5, 3)))
	wantTake(t, r, prepare(0, 1, 0, bal(5, 4)), promise(1, 0, bal(5, 4)))
	wantTake(t, r, prepare(0, 1, 0, bal(lastN, 6)), promise(1, 0, bal(lastN, 6)))
}

// A slot that no log has is no slot to promise from, also beyond the last one.
func TestPrepareOfSlots(t *testing.T) {
	r := node(t, 3, 1)
	for i, slot := range badSlots() {
		wantIgnored(t, r, prepare(0, 1, slot, bal(5+i, 0)))
		wantTake(t, r, prepare(0, 1, 0, bal(1, 0)), promise(1, 0, bal(1, 0)))
	}
	wantTake(t, r, prepare(0, 1, maxLog-1, bal(2, 0)), promise(1, 0, bal(2, 0)))
}

// One that leads, or asks, gives way to a greater ballot, and to no other.
func TestPrepareSteps(t *testing.T) {
	r := leader(t, 3, 1)
	wantTake(t, r, prepare(1, 1, 0, bal(1, 1)), promise(1, 1, bal(1, 1))) // its own one
	for _, b := range append(badBallots(), bal(1, 0), bal(0, 6)) {
		wantTake(t, r, prepare(2, 1, 0, b))
	}
	wantState(t, r, true, 0)
	wantTake(t, r, prepare(2, 1, 0, bal(1, 2)), promise(1, 2, bal(1, 2)))
	wantState(t, r, false, 0)
	wantNoPropose(t, r, "x", api.ErrState)
	wantNotes(t, "Lead", r.Lead(), prepares(3, 1, 0, bal(2, 1)))
	wantTake(t, r, promise(0, 1, bal(2, 1)))
	wantTake(t, r, prepare(2, 1, 0, bal(3, 0)), promise(1, 2, bal(3, 0)))
	wantIgnored(t, r, promise(2, 1, bal(2, 1)), promise(1, 1, bal(2, 1)))
}

// It gives way also where the acceptor may not promise: of a slot that is trimmed, or that no log has.
func TestPrepareStepsWithoutPromise(t *testing.T) {
	for _, slot := range append(badSlots(), 0, 1) {
		r := leader(t, 3, 1, "a", "b")
		wantTrim(t, r, 2, 2)
		wantTake(t, r, prepare(2, 1, slot, bal(7, 2)))
		wantState(t, r, false, 2)
		wantPromised(t, r, 1, 2, bal(1, 1))
		wantNotes(t, "Lead", r.Lead(), prepares(3, 1, 2, bal(8, 1))) // above what its proposer saw
	}
}

func TestPrepareBelowTheBase(t *testing.T) {
	r := knows(t, 3, 1, "a", "b", "c")
	wantTrim(t, r, 2, 2)
	wantIgnored(t, r, prepare(0, 1, 0, bal(1, 0)), prepare(0, 1, 1, bal(1, 0)))
	wantTake(t, r, prepare(0, 1, 2, bal(0, 0)), promise(1, 0, bal(0, 0)))
	wantTake(t, r, prepare(0, 1, 2, bal(1, 0)), promise(1, 0, bal(1, 0)))
}

// Just when Quorum nodes have promised it leads, whoever they are.
func TestPromiseOfEachQuorum(t *testing.T) {
	for n := 1; n <= mostNodes; n++ {
		for me := range n {
			r := node(t, n, me)
			r.Lead()
			for i := range n {
				from := (me*3 + i*(n-1) + 1) % n // each of them, in some order
				wantTake(t, r, promise(from, me, bal(1, me)))
				wantState(t, r, i >= n/2, 0)
				wantIgnored(t, r, promise(from, me, bal(1, me)))
			}
		}
	}
}

func TestPromiseThatIsNotAsked(t *testing.T) {
	r := node(t, 3, 1)
	wantIgnored(t, r, promise(0, 1, bal(0, 0)), promise(1, 1, bal(0, 0)), promise(2, 1, bal(0, 0)))
	r.Lead()
	for from := range 3 {
		for _, b := range append(badBallots(), bal(0, 0), bal(1, 0), bal(1, 2), bal(2, 1)) {
			wantIgnored(t, r, promise(from, 1, b, vote(0, 0, 0, "x")))
		}
	}
	wantTake(t, r, promise(0, 1, bal(1, 1)))
	wantTake(t, r, promise(2, 1, bal(1, 1)))
	wantState(t, r, true, 0)
	wantPropose(t, r, "x", accepts(3, 1, vote(0, 1, 1, "x"))...)
}

// Of each slot that somebody voted for, and of those between, a vote by its ballot goes to each node.
func TestPromiseFills(t *testing.T) {
	for n := 3; n <= 4; n++ {
		r := knows(t, n, 1, "a", "b")
		r.Lead()
		wantTake(t, r, promise(0, 1, bal(1, 1), vote(2, 0, 3, "older"), vote(4, 1, 0, "x"), vote(1, 1, 0, "told")))
		if n == 4 {
			wantTake(t, r, promise(3, 1, bal(1, 1)))
		}
		wantTake(t, r, promise(1, 1, bal(1, 1), vote(2, 0, 4, "newer"), vote(6, 0, 0, "y"), vote(7, -1, 0, "bad"), vote(maxLog, 0, 0, "bad")),
			accepts(n, 1, vote(2, 1, 1, "newer"), vote(3, 1, 1, ""), vote(4, 1, 1, "x"), vote(5, 1, 1, ""), vote(6, 1, 1, "y"))...)
		wantState(t, r, true, 2, "a", "b")
		wantIgnored(t, r, promise(2, 1, bal(1, 1), vote(9, 0, 0, "late"))) // told once
		wantPropose(t, r, "z", accepts(n, 1, vote(7, 1, 1, "z"))...)
	}
}

func TestPromiseOfLastSlot(t *testing.T) {
	r := knows(t, 1, 0, many(maxLog-2)...)
	r.Lead()
	wantTake(t, r, promise(0, 0, bal(1, 0), vote(maxLog-1, 0, 0, "x")),
		accept(0, 0, vote(maxLog-2, 1, 0, "")), accept(0, 0, vote(maxLog-1, 1, 0, "x")))
	wantNoPropose(t, r, "y", api.ErrFull)
}

func TestAccept(t *testing.T) {
	for n := 1; n <= mostNodes; n++ {
		for me := range n {
			r := node(t, n, me)
			for from := range n {
				v := vote(from, 1+from, 6, "x")
				wantTake(t, r, accept(from, me, v), voteds(n, me, v)...)
				wantTake(t, r, accept(from, me, v), voteds(n, me, v)...)
			}
			wantState(t, r, false, 0)
			last := vote(maxLog-1, 100, 0, "")
			wantTake(t, r, accept(me, me, last), voteds(n, me, last)...)
			wantPromised(t, r, me, n-1, bal(100, 0), vote(n-1, n, 6, "x"), last)
		}
	}
}

// Of no votes and of two nothing is done: the proposer does not give way, the acceptor accepts none.
func TestAcceptOfJustOne(t *testing.T) {
	r := leader(t, 3, 1)
	v, w := vote(0, 5, 0, "x"), vote(1, 5, 0, "y")
	wantIgnored(t, r, accept(0, 1), accept(0, 1, v, w), accept(0, 1, v, v), accept(0, 1, v, w, v))
	wantIgnored(t, r, api.Note{Kind: api.NoteAccept, To: 1, Ballot: bal(9, 0), Votes: []api.Vote{}})
	wantPromised(t, r, 1, 0, bal(1, 1))
	wantState(t, r, true, 0)
}

// The note's own ballot and slot mean nothing, the vote's do.
func TestAcceptOfOddNotes(t *testing.T) {
	r := leader(t, 3, 1)
	v := vote(3, 1, 1, "x")
	wantTake(t, r, api.Note{Kind: api.NoteAccept, To: 1, Slot: -5, Ballot: bal(9, 0), Votes: []api.Vote{v}}, voteds(3, 1, v)...)
	wantState(t, r, true, 0)
	wantPromised(t, r, 1, 0, bal(1, 1), v)
}

func TestAcceptRefuses(t *testing.T) {
	r := knows(t, 3, 1, "a", "b")
	wantTrim(t, r, 1, 1)
	wantTake(t, r, prepare(0, 1, 2, bal(4, 1)), promise(1, 0, bal(4, 1)))
	for _, b := range append(badBallots(), bal(4, 0), bal(3, 6), bal(0, 0)) {
		wantIgnored(t, r, accept(0, 1, api.Vote{Slot: 2, Ballot: b, Value: "x"}))
	}
	for _, slot := range append(badSlots(), 0) {
		wantIgnored(t, r, accept(0, 1, vote(slot, 4, 1, "x")))
	}
	long := strings.Repeat("v", mostBody)
	wantIgnored(t, r, accept(0, 1, vote(2, 4, 1, long+"v")), accept(0, 1, vote(2, 4, 1, long+long)))
	wantPromised(t, r, 1, 1, bal(4, 1))
	for slot := 1; slot < 3; slot++ { // of a slot that is told, too
		v := vote(slot, 4, 1, long)
		wantTake(t, r, accept(0, 1, v), voteds(3, 1, v)...)
	}
}

// One that leads gives way to a vote by a greater ballot, even if it is not accepted, and to no other.
func TestAcceptSteps(t *testing.T) {
	long := strings.Repeat("v", mostBody+1)
	for _, v := range []api.Vote{vote(0, 1, 2, "x"), vote(0, 2, 0, "x"), vote(-1, 2, 0, "x"), vote(maxLog, lastN-1, 6, "x"), vote(0, 2, 0, long)} {
		r := leader(t, 3, 1)
		r.Take(accept(0, 1, v))
		wantState(t, r, false, 0)
		wantNotes(t, "Lead", r.Lead(), prepares(3, 1, 0, bal(v.Ballot.N+1, 1)))
	}
	r := leader(t, 3, 1)
	for _, b := range append(badBallots(), bal(1, 1), bal(1, 0), bal(0, 6)) {
		r.Take(accept(0, 1, api.Vote{Slot: 0, Ballot: b, Value: "x"}))
		wantState(t, r, true, 0)
	}
}

// What it accepts itself it learns by its own note alone.
func TestAcceptTellsNothing(t *testing.T) {
	r := node(t, 1, 0)
	v := vote(0, 1, 0, "x")
	wantTake(t, r, accept(0, 0, v), voted(0, 0, v))
	wantState(t, r, false, 0)
	wantTake(t, r, voted(0, 0, v))
	wantState(t, r, false, 1, "x")
}

func TestVotedOfEachQuorum(t *testing.T) {
	for n := 1; n <= mostNodes; n++ {
		for me := range n {
			r := node(t, n, me)
			for i := range n {
				from := (me*3 + i*(n-1) + 1) % n
				wantTake(t, r, voted(from, me, vote(0, 4, 2, "x")))
				if i < n/2 {
					wantIgnored(t, r, voted(from, me, vote(0, 4, 2, "x"))) // a node counts once
					wantState(t, r, false, 0)
				} else {
					wantState(t, r, false, 1, "x")
				}
			}
		}
	}
}

func TestVotedOfJustOne(t *testing.T) {
	r := node(t, 1, 0)
	v, w := vote(0, 1, 0, "x"), vote(1, 1, 0, "y")
	wantIgnored(t, r, voted(0, 0), voted(0, 0, v, w), voted(0, 0, v, v), voted(0, 0, v, w, v))
	wantIgnored(t, r, api.Note{Kind: api.NoteVoted, Votes: []api.Vote{}})
	wantTake(t, r, api.Note{Kind: api.NoteVoted, Slot: 7, Ballot: bal(-1, -1), Votes: []api.Vote{v}})
	wantState(t, r, false, 1, "x")
}

func TestVotedRefuses(t *testing.T) {
	r := knows(t, 1, 0, "a", "b")
	wantTrim(t, r, 1, 1)
	for _, b := range badBallots() {
		wantIgnored(t, r, voted(0, 0, api.Vote{Slot: 2, Ballot: b, Value: "x"}))
	}
	for _, slot := range append(badSlots(), 0, 1) {
		wantIgnored(t, r, voted(0, 0, vote(slot, 1, 0, "x")))
	}
	wantIgnored(t, r, voted(0, 0, vote(2, 1, 0, strings.Repeat("v", mostBody+1))))
	wantTake(t, r, voted(0, 0, vote(2, 1, 0, "x")))
	wantState(t, r, false, 3, "b", "x")
}

// Who hears a vote does not accept it, nor give way to it.
func TestVotedIsNoAccept(t *testing.T) {
	r := leader(t, 3, 1)
	for from := range 3 {
		wantTake(t, r, voted(from, 1, vote(0, 9, 0, "x")))
	}
	wantState(t, r, true, 1, "x")
	wantPromised(t, r, 1, 0, bal(1, 1))
}

func TestTakeAsk(t *testing.T) {
	values := many(20)
	r := knows(t, 3, 1, values...)
	wantTake(t, r, tell(0, 1, fact(21, "behind a gap")))
	for from := range 3 { // itself, too
		for slot := range 20 {
			end := min(slot+mostTold, 20)
			wantTake(t, r, ask(from, 1, slot), tell(1, from, facts(slot, values[slot:end]...)...))
		}
		wantIgnored(t, r, ask(from, 1, 20), ask(from, 1, 21))
		for _, slot := range badSlots() {
			wantIgnored(t, r, ask(from, 1, slot))
		}
	}
	wantIgnored(t, node(t, 3, 1), ask(0, 1, 0))
	full := knows(t, 3, 1, many(maxLog)...)
	wantTake(t, full, ask(0, 1, maxLog-1), tell(1, 0, fact(maxLog-1, "value 1023")))
	wantTake(t, full, ask(0, 1, maxLog-8), tell(1, 0, facts(maxLog-8, many(maxLog)[maxLog-8:]...)...))
	wantTake(t, full, ask(0, 1, maxLog))
}

// Who asks for what is trimmed is told nothing, not what stands behind it.
func TestTakeAskBelowTheBase(t *testing.T) {
	r := knows(t, 3, 1, many(20)...)
	wantTrim(t, r, 5, 5)
	for slot := range 5 {
		wantIgnored(t, r, ask(0, 1, slot))
	}
	wantTake(t, r, ask(0, 1, 5), tell(1, 0, facts(5, many(20)[5:13]...)...))
	wantTake(t, r, ask(0, 1, 19), tell(1, 0, fact(19, "value 19")))
	wantTrim(t, r, 20, 15)
	wantIgnored(t, r, ask(0, 1, 19), ask(0, 1, 20), ask(0, 1, 0))
}

// What is told, and not what was accepted, goes out: also empty values, and those of votes.
func TestTakeAskOfWhatIsTold(t *testing.T) {
	r := node(t, 1, 0)
	r.Take(accept(0, 0, vote(0, 1, 0, "x")))
	wantIgnored(t, r, ask(0, 0, 0))
	wantTake(t, r, voted(0, 0, vote(0, 1, 0, "")))
	wantTake(t, r, tell(0, 0, fact(1, "y")))
	x := ask(0, 0, 0)
	x.Ballot, x.Votes = bal(-1, 9), []api.Vote{vote(5, 5, 5, "z")} // these mean nothing
	wantTake(t, r, x, tell(0, 0, fact(0, ""), fact(1, "y")))
}

// Who asks again and again catches up.
func TestAskTillAllIsKnown(t *testing.T) {
	values := many(100)
	a, b := knows(t, 3, 0, values...), node(t, 3, 2)
	for i := 0; b.Next() < 100; i++ {
		if i > 100/mostTold {
			t.Fatalf("asked %d times, and slot %d is not known", i, b.Next())
		}
		l := a.Take(b.Ask(0)[0])
		if len(l) != 1 {
			t.Fatalf("%d notes", len(l))
		}
		wantTake(t, b, l[0])
	}
	wantState(t, b, false, 100, values...)
	wantTake(t, a, b.Ask(0)[0])
}

func TestTakeTell(t *testing.T) {
	r := node(t, 7, 1)
	wantTake(t, r, tell(6, 1, fact(2, "c"), fact(0, "a")))
	wantState(t, r, false, 1, "a")
	wantTake(t, r, tell(0, 1, vote(1, 9, 3, "b"), fact(0, "told already"), fact(1, "twice")))
	wantState(t, r, false, 3, "a", "b", "c")
	wantTake(t, r, tell(1, 1, facts(3, many(50)...)...)) // more than eight, too
	wantState(t, r, false, 53, append([]string{"a", "b", "c"}, many(50)...)...)
	wantIgnored(t, r, tell(0, 1))
}

// Each one that may be told is, whatever stands ahead of it.
func TestTellRefuses(t *testing.T) {
	r := knows(t, 3, 1, "a", "b")
	wantTrim(t, r, 1, 1)
	var l []api.Vote
	for _, slot := range append(badSlots(), 0, 1) {
		l = append(l, fact(slot, "x"))
	}
	l = append(l, fact(2, strings.Repeat("v", mostBody+1)))
	wantIgnored(t, r, tell(0, 1, l...))
	wantTake(t, r, tell(0, 1, append(l, api.Vote{Slot: 2, Ballot: bal(-1, 9), Value: "c"})...))
	wantState(t, r, false, 3, "b", "c")
}

// Who is told does not accept it, nor give way to its ballot.
func TestTellIsNoAccept(t *testing.T) {
	r := leader(t, 3, 1)
	wantTake(t, r, tell(0, 1, vote(0, 9, 0, "x")))
	wantState(t, r, true, 1, "x")
	wantPromised(t, r, 1, 0, bal(1, 1))
	wantPropose(t, r, "y", accepts(3, 1, vote(0, 1, 1, "y"))...) // the proposer's slots are its own
}

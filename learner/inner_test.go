package learner

import (
	"fmt"
	"strings"
	"testing"
	"unsafe"

	"hurdle/api"
)

func by(slot, n int, value string) api.Vote {
	return api.Vote{Slot: slot, Ballot: api.Ballot{N: n}, Value: value}
}

// What is handed in is not kept: no answer tells it, but where the texts stand does.
func TestValuesAreNotKeptAsTheyCame(t *testing.T) {
	value := strings.Clone("a value")
	want := func(kept string) {
		t.Helper()
		if kept != value || unsafe.StringData(kept) == unsafe.StringData(value) {
			t.Errorf("%q is kept as it came", kept)
		}
	}
	l := New(3)
	l.Hear(0, by(0, 1, value))
	want(l.slots[0].votes[0].value)
	l.Hear(0, by(0, 2, value)) // in the place of another one, too
	want(l.slots[0].votes[0].value)
	l.Hear(1, by(0, 2, value))
	want(l.slots[0].value)
	l.Tell(1, value)
	want(l.slots[1].value)
}

// Of a slot that is told no votes are kept.
func TestNoVotesAreLeft(t *testing.T) {
	for _, end := range []func(l *Learner) bool{
		func(l *Learner) bool { return l.Hear(2, by(5, 1, "x")) },
		func(l *Learner) bool { return l.Tell(5, "y") },
	} {
		l := New(3)
		l.Hear(0, by(5, 1, "x"))
		l.Hear(1, by(5, 0, "x"))
		if !end(l) {
			t.Fatal("the slot is not told")
		}
		l.Hear(0, by(5, 9, "z"))
		if s := l.slots[5]; !s.told || s.votes != nil {
			t.Errorf("%v is kept", s)
		}
	}
}

// Slots that are trimmed are not kept, and what comes for them then is not, either.
func TestNothingIsLeftOfWhatIsTrimmed(t *testing.T) {
	l := New(3)
	for slot := range api.MaxLog {
		l.Hear(0, by(slot, 1, "x"))
		l.Tell(slot, "x")
		l.Trim(slot - 3)
		l.Hear(0, by(slot-4, 1, "x"))
		if most := min(slot+1, 4); len(l.slots) != most {
			t.Fatalf("%d slots are kept at slot %d", len(l.slots), slot)
		}
	}
	l.Trim(api.MaxLog)
	if len(l.slots) != 0 {
		t.Errorf("%d slots are kept", len(l.slots))
	}
}

// Of each slot and node one vote is kept, however many come.
func TestOneVoteOfANodeIsKept(t *testing.T) {
	l := New(7)
	for i := range 5000 {
		l.Hear(i%7, by(i%10, i*7%5000, fmt.Sprint(i)))
	}
	if len(l.slots) != 10 {
		t.Errorf("%d slots are kept", len(l.slots))
	}
	for slot, s := range l.slots {
		if len(s.votes) != 7 {
			t.Errorf("slot %d: %d votes are kept", slot, len(s.votes))
		}
	}
}

// What is refused or asked leaves nothing behind.
func TestNothingIsKeptOfWhatIsRefused(t *testing.T) {
	l := New(3)
	long := strings.Repeat("x", api.MaxBody+1)
	l.Hear(-1, by(0, 1, "x"))
	l.Hear(3, by(0, 1, "x"))
	l.Hear(0, by(0, -1, "x"))
	l.Hear(0, by(-1, 1, "x"))
	l.Hear(0, by(api.MaxLog, 1, "x"))
	l.Hear(0, by(0, 1, long))
	l.Tell(-1, "x")
	l.Tell(api.MaxLog, "x")
	l.Tell(0, long)
	l.Told(0)
	l.Log(0)
	l.Trim(5)
	if len(l.slots) != 0 {
		t.Errorf("%d slots are kept", len(l.slots))
	}
}

// The count itself: each number of nodes that agree, at each number of nodes.
func TestAgreed(t *testing.T) {
	heard := vote{given: true, ballot: api.Ballot{N: 1}, value: "x"}
	others := []vote{{}, {given: true, value: "x"}, {given: true, ballot: heard.ballot}}
	for n := 1; n <= api.MaxNodes; n++ {
		for set := range 1 << n {
			votes, sum := make([]vote, n), 0
			for i := range votes {
				votes[i] = others[(i+set)%len(others)]
				if set>>i&1 == 1 {
					votes[i] = heard
					sum++
				}
			}
			if got := New(n).agreed(votes, heard); got != (2*sum > n) {
				t.Errorf("%d of %d nodes agree: %v", sum, n, got)
			}
		}
	}
}

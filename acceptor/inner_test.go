package acceptor

import (
	"strings"
	"testing"
	"unsafe"

	"hurdle/api"
)

func give(t *testing.T, a *Acceptor, slot, n int, value string) {
	t.Helper()
	if !a.Accept(api.Vote{Slot: slot, Ballot: api.Ballot{N: n}, Value: value}) {
		t.Fatalf("slot %d is not accepted", slot)
	}
}

// What is handed in is not kept: no answer tells it, but where the texts stand does.
func TestValuesAreNotKeptAsTheyCame(t *testing.T) {
	a := New()
	value := strings.Clone("a value")
	give(t, a, 5, 1, value)
	give(t, a, 5, 2, value) // in the place of another one, too
	if kept := a.votes[0].Value; kept != value || unsafe.StringData(kept) == unsafe.StringData(value) {
		t.Errorf("%q is kept as it came", kept)
	}
}

// Votes that are trimmed are cleared: nothing of them is left behind those that stay.
func TestNothingIsLeft(t *testing.T) {
	a := New()
	for slot := range 100 {
		give(t, a, slot, 1, "a value")
	}
	for _, upto := range []int{1, 40, 99, 100} {
		a.Trim(upto)
		if len(a.votes) != 100-upto {
			t.Fatalf("%d are kept behind Trim(%d)", len(a.votes), upto)
		}
		for _, v := range a.votes[len(a.votes):cap(a.votes)] {
			if v != (api.Vote{}) {
				t.Errorf("the vote of slot %d is left behind Trim(%d)", v.Slot, upto)
			}
		}
	}
}

// However many votes there were, the room that they take does not grow.
func TestRoomDoesNotGrow(t *testing.T) {
	a := New()
	for slot := range api.MaxLog {
		give(t, a, slot, slot, "a value")
		give(t, a, slot, slot, "another value")
		a.Trim(slot - 3)
	}
	if len(a.votes) != 4 || cap(a.votes) > 32 {
		t.Errorf("%d are kept in a room for %d", len(a.votes), cap(a.votes))
	}
}

// What is refused leaves no room behind.
func TestNothingIsKeptOfWhatIsRefused(t *testing.T) {
	a := New()
	a.Accept(api.Vote{Slot: api.MaxLog, Value: "x"})
	a.Accept(api.Vote{Slot: -1, Value: "x"})
	a.Accept(api.Vote{Ballot: api.Ballot{N: -1}, Value: "x"})
	a.Accept(api.Vote{Value: strings.Repeat("x", api.MaxBody+1)})
	a.Trim(5)
	a.Promise(api.Ballot{N: 3}, 5)
	if len(a.votes) != 0 || cap(a.votes) != 0 {
		t.Errorf("%d are kept in a room for %d", len(a.votes), cap(a.votes))
	}
}

package troop

import (
	"testing"

	"hurdle/api"
)

// Of notes that went out nothing is kept, behind the end of those under way either.
func TestNothingIsLeftOfWhatWentOut(t *testing.T) {
	tr := New(5)
	tr.Lead(0)
	for range 10 { // five notes, and an answer to each
		tr.Deliver(0)
	}
	full := 0
	for i := range 300 {
		tr.Propose(0, "a value")
		tr.Deliver(i)
		tr.Drop(2 * i)
		tr.Double(i)
		for at, x := range tr.way[len(tr.way):cap(tr.way)] {
			if x.Kind != 0 || x.Votes != nil {
				t.Fatalf("step %d: a note of kind %d is kept %d behind the end", i, x.Kind, at)
			}
		}
		if len(tr.way) > api.MaxWay {
			t.Fatalf("%d notes are kept", len(tr.way))
		}
		if len(tr.way) == api.MaxWay {
			full++
		}
	}
	if full < 10 {
		t.Errorf("it was full %d times: too few to tell", full)
	}
	for range api.MaxWay {
		tr.Drop(-1)
	}
	for _, x := range tr.way[:cap(tr.way)] {
		if x.Votes != nil {
			t.Fatal("a note's votes are kept, though none is under way")
		}
	}
}

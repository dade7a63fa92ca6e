package proposer

import (
	"fmt"
	"strings"
	"testing"
	"unsafe"

	"hurdle/api"
)

// lead lets p ask for its next ballot from slot 0 on.
func lead(t *testing.T, p *Proposer) api.Ballot {
	t.Helper()
	b, err := p.Lead(api.Ballot{}, 0)
	if err != api.OK {
		t.Fatalf("Lead: %d", err)
	}
	return b
}

func give(p *Proposer, from, slot, n int, value string) {
	p.Promise(from, p.ballot, []api.Vote{{Slot: slot, Ballot: api.Ballot{N: n}, Value: value}})
}

// What is handed in is not kept: no answer tells it, but where the texts stand does.
func TestValuesAreNotKeptAsTheyCame(t *testing.T) {
	p := New(7, 0)
	lead(t, p)
	value := strings.Clone("a value")
	for from, n := range []int{1, 1, 2} { // in the place of another one, too
		give(p, from, 5, n, value)
		if kept := p.votes[5].Value; kept != value || unsafe.StringData(kept) == unsafe.StringData(value) {
			t.Errorf("%q is kept as it came", kept)
		}
	}
}

// Of each slot one vote is kept, however many count.
func TestOneVoteOfASlotIsKept(t *testing.T) {
	p := New(3, 0)
	b := lead(t, p)
	var l []api.Vote
	for i := range 5000 {
		l = append(l, api.Vote{Slot: i % 10, Ballot: api.Ballot{N: i * 7 % 5000}, Value: fmt.Sprint(i)})
	}
	p.Promise(1, b, l)
	if len(p.votes) != 10 {
		t.Errorf("%d votes are kept of 10 slots", len(p.votes))
	}
}

// Votes are kept no longer than Fill may ask for them.
func TestNoVotesAreLeft(t *testing.T) {
	for _, end := range []func(p *Proposer){
		func(p *Proposer) { p.Fill() },
		func(p *Proposer) { p.Step(api.Ballot{N: 100}) },
		func(p *Proposer) { p.Lead(api.Ballot{}, 0) },
	} {
		p := New(1, 0)
		lead(t, p)
		give(p, 0, 5, 1, "a value")
		if len(p.votes) != 1 || !p.Leads() {
			t.Fatalf("%d votes are there, leads %v", len(p.votes), p.Leads())
		}
		end(p)
		if len(p.votes) != 0 {
			t.Errorf("%d votes are left", len(p.votes))
		}
	}
}

// What may not count leaves nothing behind.
func TestNothingIsKeptOfWhatDoesNotCount(t *testing.T) {
	p := New(1, 0)
	b, err := p.Lead(api.Ballot{}, 5)
	if err != api.OK {
		t.Fatalf("Lead: %d", err)
	}
	p.Promise(0, b, []api.Vote{
		{Slot: 4, Value: "x"},
		{Slot: -1, Value: "x"},
		{Slot: api.MaxLog, Value: "x"},
		{Slot: 5, Ballot: api.Ballot{N: -1}, Value: "x"},
		{Slot: 5, Value: strings.Repeat("x", api.MaxBody+1)},
	})
	if len(p.votes) != 0 {
		t.Errorf("%d votes are kept", len(p.votes))
	}
}

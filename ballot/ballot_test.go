package ballot_test

import (
	"math"
	"slices"
	"strings"
	"testing"
	"unsafe"

	"hurdle/api"
	"hurdle/ballot"
)

const lastN = 1<<31 - 1

func bal(n, node int) api.Ballot { return api.Ballot{N: n, Node: node} }

func vote(slot, n, node int, value string) api.Vote {
	return api.Vote{Slot: slot, Ballot: bal(n, node), Value: value}
}

// edges are numbers at, inside and beyond all bounds, rising.
func edges() []int {
	return []int{math.MinInt, math.MinInt + 1, -1 << 32, -1 << 31, -7, -1, 0, 1, 2, 5, 6, 7, 8,
		lastN - 1, lastN, lastN + 1, 1 << 32, 1<<32 + 1, math.MaxInt - 1, math.MaxInt}
}

// rising are ballots of the edges' numbers, each greater than the one ahead.
func rising() []api.Ballot {
	var all []api.Ballot
	for _, n := range edges() {
		for _, node := range edges() {
			all = append(all, bal(n, node))
		}
	}
	return all
}

// lot gives numbers of many values, the same ones each time.
type lot uint64

func (l *lot) below(n int) int {
	*l = *l*6364136223846793005 + 1442695040888963407
	return int(uint64(*l)>>33) % n
}

func TestValid(t *testing.T) {
	for _, c := range []struct {
		b    api.Ballot
		want bool
	}{
		{bal(0, 0), true},
		{bal(1, 2), true},
		{bal(0, 6), true},
		{bal(lastN, 0), true},
		{bal(lastN, 6), true},
		{bal(0, 7), false},
		{bal(lastN, 7), false},
		{bal(0, -1), false},
		{bal(-1, 0), false},
		{bal(-1, -1), false},
		{bal(lastN+1, 0), false},
		{bal(1<<32, 1), false},
		{bal(1, 1<<32), false},
		{bal(math.MinInt, 0), false},
		{bal(math.MaxInt, 0), false},
		{bal(0, math.MinInt), false},
		{bal(0, math.MaxInt), false},
	} {
		if got := ballot.Valid(c.b); got != c.want {
			t.Errorf("Valid(%v): %v, want %v", c.b, got, c.want)
		}
	}
}

func TestValidOfAllNodes(t *testing.T) {
	for node := -300; node <= 300; node++ {
		want := node >= 0 && node < 7
		if got := ballot.Valid(bal(3, node)); got != want {
			t.Errorf("Valid of node %d: %v, want %v", node, got, want)
		}
	}
}

func TestCmp(t *testing.T) {
	for _, c := range []struct {
		a, b api.Ballot
		want int
	}{
		{bal(1, 2), bal(2, 0), -1},
		{bal(2, 0), bal(1, 2), 1},
		{bal(1, 2), bal(1, 2), 0},
		{bal(0, 0), bal(0, 0), 0},
		{bal(1, 2), bal(1, 3), -1},
		{bal(1, 3), bal(1, 2), 1},
		{bal(0, 6), bal(1, 0), -1},
		{bal(lastN, 0), bal(lastN-1, 6), 1},
		{bal(-1, 6), bal(0, 0), -1},
		{bal(0, -1), bal(0, 0), -1},
		// What lies too far apart for a difference of ints.
		{bal(math.MinInt, 0), bal(math.MaxInt, 0), -1},
		{bal(math.MaxInt, 0), bal(math.MinInt, 0), 1},
		{bal(0, math.MaxInt), bal(0, math.MinInt), 1},
		{bal(0, math.MinInt), bal(0, math.MaxInt), -1},
	} {
		if got := ballot.Cmp(c.a, c.b); got != c.want {
			t.Errorf("Cmp(%v, %v): %d, want %d", c.a, c.b, got, c.want)
		}
	}
}

func TestCmpOfAllEdges(t *testing.T) {
	all := rising()
	for i, a := range all {
		for j, b := range all {
			want := 0
			if i < j {
				want = -1
			}
			if i > j {
				want = 1
			}
			if got := ballot.Cmp(a, b); got != want {
				t.Fatalf("Cmp(%v, %v): %d, want %d", a, b, got, want)
			}
		}
	}
}

func TestNext(t *testing.T) {
	for _, c := range []struct {
		b    api.Ballot
		node int
		want api.Ballot
	}{
		{bal(1, 2), 1, bal(2, 1)},
		{bal(0, 0), 0, bal(1, 0)},
		{bal(0, 0), 6, bal(1, 6)},
		{bal(5, 6), 0, bal(6, 0)},
		{bal(0, 0), 7, bal(1, 6)},
		{bal(0, 0), -1, bal(1, 0)},
		{bal(3, 3), math.MaxInt, bal(4, 6)},
		{bal(3, 3), math.MinInt, bal(4, 0)},
		{bal(lastN-1, 4), 3, bal(lastN, 3)},
		{bal(lastN, 4), 3, bal(0, 0)},
		{bal(lastN+1, 4), 3, bal(0, 0)},
		{bal(1<<32, 4), 3, bal(0, 0)},
		{bal(math.MaxInt, 4), 3, bal(0, 0)},
		{bal(-1, 4), 3, bal(0, 0)},
		{bal(-2, 4), 3, bal(0, 0)},
		{bal(math.MinInt, 4), 3, bal(0, 0)},
		{bal(lastN, 0), 7, bal(0, 0)},
		// The node of the ballot ahead may be any.
		{bal(1, 7), 2, bal(2, 2)},
		{bal(1, math.MinInt), 2, bal(2, 2)},
		{bal(1, math.MaxInt), 2, bal(2, 2)},
	} {
		if got := ballot.Next(c.b, c.node); got != c.want {
			t.Errorf("Next(%v, %d): %v, want %v", c.b, c.node, got, c.want)
		}
	}
}

// Who leads next leads by a ballot that may be, and that is greater than the one ahead.
func TestNextIsGreater(t *testing.T) {
	for _, b := range rising() {
		for _, node := range edges() {
			next := ballot.Next(b, node)
			if !ballot.Valid(next) {
				t.Fatalf("Next(%v, %d): %v, which may not be", b, node, next)
			}
			if b.N >= 0 && b.N < lastN && ballot.Cmp(b, next) != -1 {
				t.Fatalf("Next(%v, %d): %v, which is not greater", b, node, next)
			}
		}
	}
}

func TestMax(t *testing.T) {
	for _, c := range []struct {
		l    []api.Ballot
		want api.Ballot
	}{
		{nil, bal(0, 0)},
		{[]api.Ballot{}, bal(0, 0)},
		{[]api.Ballot{bal(0, 0)}, bal(0, 0)},
		{[]api.Ballot{bal(4, 5)}, bal(4, 5)},
		{[]api.Ballot{bal(1, 2), bal(2, 0)}, bal(2, 0)},
		{[]api.Ballot{bal(2, 0), bal(1, 2)}, bal(2, 0)},
		{[]api.Ballot{bal(2, 0), bal(2, 1), bal(1, 6)}, bal(2, 1)},
		{[]api.Ballot{bal(2, 1), bal(2, 1)}, bal(2, 1)},
		{[]api.Ballot{bal(1, 0), bal(3, 0), bal(2, 0)}, bal(3, 0)},
		{[]api.Ballot{bal(lastN, 6), bal(0, 0)}, bal(lastN, 6)},
		// The zero one is the greatest of none alone: those that may not be count as well.
		{[]api.Ballot{bal(-1, 0)}, bal(-1, 0)},
		{[]api.Ballot{bal(-5, 1), bal(-2, 0), bal(-3, 9)}, bal(-2, 0)},
		{[]api.Ballot{bal(0, -1), bal(0, -2)}, bal(0, -1)},
		{[]api.Ballot{bal(math.MinInt, math.MinInt)}, bal(math.MinInt, math.MinInt)},
		{[]api.Ballot{bal(1, 6), bal(1, 7)}, bal(1, 7)},
		{[]api.Ballot{bal(math.MinInt, 0), bal(math.MaxInt, 0), bal(lastN, 0)}, bal(math.MaxInt, 0)},
	} {
		if got := ballot.Max(c.l); got != c.want {
			t.Errorf("Max(%v): %v, want %v", c.l, got, c.want)
		}
	}
}

func TestMaxOfAllPlaces(t *testing.T) {
	for at := range 9 {
		l := make([]api.Ballot, 9)
		for i := range l {
			l[i] = bal(3, i%7)
		}
		l[at] = bal(4, 0)
		if got := ballot.Max(l); got != bal(4, 0) {
			t.Errorf("the greatest at %d: Max tells %v", at, got)
		}
	}
}

func TestMaxLeavesItsList(t *testing.T) {
	whole := []api.Ballot{bal(2, 1), bal(1, 0), bal(9, 9)}
	if got := ballot.Max(whole[:2]); got != bal(2, 1) {
		t.Errorf("Max: %v, want {2 1}: what lies behind the list's end is not of it", got)
	}
	if !slices.Equal(whole, []api.Ballot{bal(2, 1), bal(1, 0), bal(9, 9)}) {
		t.Errorf("Max changed its list to %v", whole)
	}
}

func TestMaxOfMany(t *testing.T) {
	const count = 1 << 20
	l := make([]api.Ballot, count)
	for i := range l {
		l[i] = bal(i/7, i%7)
	}
	if got, want := ballot.Max(l), l[count-1]; got != want {
		t.Errorf("Max of many: %v, want %v", got, want)
	}
}

func TestQuorum(t *testing.T) {
	for n, want := range []int{0, 1, 2, 2, 3, 3, 4, 4, 0, 0} {
		if got := ballot.Quorum(n); got != want {
			t.Errorf("Quorum(%d): %d, want %d", n, got, want)
		}
	}
	for _, n := range []int{math.MinInt, -1 << 32, -7, -2, -1, 8, 9, 100, 1<<32 + 3, math.MaxInt} {
		if got := ballot.Quorum(n); got != 0 {
			t.Errorf("Quorum(%d): %d, want 0", n, got)
		}
	}
}

func TestPick(t *testing.T) {
	for _, c := range []struct {
		l    []api.Vote
		want api.Vote
	}{
		{[]api.Vote{{}}, api.Vote{}},
		{[]api.Vote{vote(3, 1, 2, "a")}, vote(3, 1, 2, "a")},
		{[]api.Vote{vote(0, 1, 2, "a"), vote(0, 2, 0, "b")}, vote(0, 2, 0, "b")},
		{[]api.Vote{vote(0, 2, 0, "b"), vote(0, 1, 2, "a")}, vote(0, 2, 0, "b")},
		{[]api.Vote{vote(0, 2, 1, "b"), vote(0, 2, 3, "c"), vote(0, 2, 2, "d")}, vote(0, 2, 3, "c")},
		// Of several of one ballot the first one, whatever else they are.
		{[]api.Vote{vote(7, 2, 0, "z"), vote(9, 2, 0, "a")}, vote(7, 2, 0, "z")},
		{[]api.Vote{vote(7, 1, 0, "x"), vote(9, 2, 0, ""), vote(1, 2, 0, "a"), vote(0, 2, 0, "b")}, vote(9, 2, 0, "")},
		// Neither slots nor values say which is picked.
		{[]api.Vote{vote(9, 1, 0, "zz"), vote(1, 1, 1, "a"), vote(5, 0, 6, "zzz")}, vote(1, 1, 1, "a")},
		// Those that may not be count as well.
		{[]api.Vote{vote(-1, -1, -1, "a")}, vote(-1, -1, -1, "a")},
		{[]api.Vote{vote(0, -3, 0, "a"), vote(0, -2, 0, "b"), vote(0, -2, -1, "c")}, vote(0, -2, 0, "b")},
		{[]api.Vote{vote(0, 1, 6, "a"), vote(0, 1, 7, "b")}, vote(0, 1, 7, "b")},
		{[]api.Vote{vote(math.MinInt, math.MinInt, math.MinInt, "a")}, vote(math.MinInt, math.MinInt, math.MinInt, "a")},
		{[]api.Vote{vote(0, math.MinInt, 0, "a"), vote(math.MaxInt, math.MaxInt, 0, "b")}, vote(math.MaxInt, math.MaxInt, 0, "b")},
	} {
		if got, ok := ballot.Pick(c.l); got != c.want || !ok {
			t.Errorf("Pick(%v): %v and %v, want %v and true", c.l, got, ok, c.want)
		}
	}
}

func TestPickOfNone(t *testing.T) {
	behind := []api.Vote{vote(1, 2, 3, "behind")}
	for _, l := range [][]api.Vote{nil, {}, behind[:0]} {
		if got, ok := ballot.Pick(l); got != (api.Vote{}) || ok {
			t.Errorf("Pick of none: %v and %v", got, ok)
		}
	}
}

func TestPickOfLongValues(t *testing.T) {
	long := strings.Repeat("v", 1<<20)
	got, ok := ballot.Pick([]api.Vote{vote(1, 1, 1, "short"), vote(2, 2, 2, long)})
	if got != vote(2, 2, 2, long) || !ok {
		t.Errorf("Pick: slot %d, %d bytes and %v", got.Slot, len(got.Value), ok)
	}
}

func TestPickLeavesItsList(t *testing.T) {
	whole := []api.Vote{vote(1, 2, 1, "a"), vote(2, 1, 0, "b"), vote(3, 9, 9, "behind")}
	want := slices.Clone(whole)
	if got, ok := ballot.Pick(whole[:2]); got != want[0] || !ok {
		t.Errorf("Pick: %v and %v, want %v: what lies behind the list's end is not of it", got, ok, want[0])
	}
	if !slices.Equal(whole, want) {
		t.Errorf("Pick changed its list to %v", whole)
	}
}

// What is handed out is new memory: no answer tells it, but where the texts stand does.
func TestPickedValueIsNew(t *testing.T) {
	value := strings.Clone("a value")
	l := []api.Vote{vote(1, 1, 1, value)}
	a, _ := ballot.Pick(l)
	b, _ := ballot.Pick(l)
	at := func(s string) *byte { return unsafe.StringData(s) }
	if at(a.Value) == at(value) || at(b.Value) == at(value) || at(a.Value) == at(b.Value) {
		t.Error("the value is where the one that was handed in stands, or where another answer's does")
	}
}

// plainPick goes over the list for each of its votes: that one is picked whose ballot is less than none, and none's ahead.
func plainPick(l []api.Vote) (api.Vote, bool) {
	for i, v := range l {
		best := true
		for j, other := range l {
			a, b := v.Ballot, other.Ballot
			greater := b.N > a.N || b.N == a.N && b.Node > a.Node
			best = best && !greater && (j >= i || a != b)
		}
		if best {
			return v, true
		}
	}
	return api.Vote{}, false
}

func TestPickAndMaxOfManyLists(t *testing.T) {
	l := lot(16)
	for range 5000 {
		votes := make([]api.Vote, l.below(9))
		all := make([]api.Ballot, len(votes))
		for i := range votes {
			votes[i] = vote(i, l.below(4)-1, l.below(4)-1, string(rune('a'+i)))
			all[i] = votes[i].Ballot
		}
		want, some := plainPick(votes)
		if got, ok := ballot.Pick(votes); got != want || ok != some {
			t.Fatalf("Pick(%v): %v and %v, want %v and %v", votes, got, ok, want, some)
		}
		if got := ballot.Max(all); got != want.Ballot {
			t.Fatalf("Max(%v): %v, want %v", all, got, want.Ballot)
		}
	}
}

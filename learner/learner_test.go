package learner_test

import (
	"fmt"
	"math"
	"slices"
	"strings"
	"testing"
	"unsafe"

	"hurdle/api"
	"hurdle/learner"
)

const (
	lastN     = 1<<31 - 1
	maxLog    = 1024
	mostBody  = 4096
	mostNodes = 7
)

func bal(n, node int) api.Ballot { return api.Ballot{N: n, Node: node} }

func vote(slot, n, node int, value string) api.Vote {
	return api.Vote{Slot: slot, Ballot: bal(n, node), Value: value}
}

// badBallots are those that nobody may lead by.
func badBallots() []api.Ballot {
	return []api.Ballot{bal(-1, 0), bal(-1, 6), bal(0, -1), bal(5, -1), bal(0, 7), bal(9, 7), bal(lastN, 7),
		bal(lastN+1, 0), bal(1<<32+5, 0), bal(5, 1<<32), bal(math.MinInt, 0), bal(math.MaxInt, 0),
		bal(5, math.MinInt), bal(5, math.MaxInt)}
}

// badSlots are those that no log has.
func badSlots() []int {
	return []int{-1, -maxLog, maxLog, maxLog + 1, 1 << 32, 1<<32 + 3, math.MinInt, math.MinInt + 1, math.MaxInt}
}

// badNodes are those that no group of n nodes has.
func badNodes(n int) []int {
	return []int{-1, -n, n, n + 1, mostNodes, 64, 1 << 32, -1 << 32, math.MinInt, math.MaxInt}
}

// short tells a value, of a long one its length alone.
func short(value string) string {
	if len(value) > 20 {
		return fmt.Sprint(len(value), " bytes")
	}
	return fmt.Sprintf("%q", value)
}

func brief(v api.Vote) string {
	return fmt.Sprintf("%d by %d.%d: %s", v.Slot, v.Ballot.N, v.Ballot.Node, short(v.Value))
}

func briefs(l []string) string {
	var parts []string
	for _, value := range l {
		parts = append(parts, short(value))
	}
	return "[" + strings.Join(parts, ", ") + "]"
}

func among(t *testing.T, n int) *learner.Learner {
	t.Helper()
	l := learner.New(n)
	if l == nil {
		t.Fatalf("New(%d): nil", n)
	}
	return l
}

// with is one of n nodes to whom these values were told, from slot 0 on.
func with(t *testing.T, n int, values ...string) *learner.Learner {
	t.Helper()
	l := among(t, n)
	for slot, value := range values {
		wantTell(t, l, slot, value)
	}
	return l
}

// wantHeard is for votes that tell no slot.
func wantHeard(t *testing.T, l *learner.Learner, from int, all ...api.Vote) {
	t.Helper()
	for _, v := range all {
		wantSame(t, l, func() {
			if l.Hear(from, v) {
				t.Errorf("Hear(%d, %s): true, want false", from, brief(v))
			}
		})
	}
}

// wantChosen is for a vote that tells its slot.
func wantChosen(t *testing.T, l *learner.Learner, from int, v api.Vote) {
	t.Helper()
	wantNotTold(t, l, v.Slot)
	if !l.Hear(from, v) {
		t.Errorf("Hear(%d, %s): false, want true", from, brief(v))
	}
	wantTold(t, l, v.Slot, v.Value)
}

func wantTell(t *testing.T, l *learner.Learner, slot int, value string) {
	t.Helper()
	wantNotTold(t, l, slot)
	if !l.Tell(slot, value) {
		t.Errorf("Tell(%d, %s): false, want true", slot, short(value))
	}
	wantTold(t, l, slot, value)
}

func wantNoTell(t *testing.T, l *learner.Learner, slot int, value string) {
	t.Helper()
	wantSame(t, l, func() {
		if l.Tell(slot, value) {
			t.Errorf("Tell(%d, %s): true, want false", slot, short(value))
		}
	})
}

func wantTold(t *testing.T, l *learner.Learner, slot int, want string) {
	t.Helper()
	if got, ok := l.Told(slot); got != want || !ok {
		t.Errorf("Told(%d): %s, %v, want %s, true", slot, short(got), ok, short(want))
	}
}

func wantNotTold(t *testing.T, l *learner.Learner, slots ...int) {
	t.Helper()
	for _, slot := range slots {
		if got, ok := l.Told(slot); got != "" || ok {
			t.Errorf("Told(%d): %s, %v, want nothing and false", slot, short(got), ok)
		}
	}
}

func wantState(t *testing.T, l *learner.Learner, base, next int) {
	t.Helper()
	if b, n := l.Base(), l.Next(); b != base || n != next {
		t.Errorf("base %d, next %d, want %d, %d", b, n, base, next)
	}
}

func wantLog(t *testing.T, l *learner.Learner, from int, want ...string) {
	t.Helper()
	wantSame(t, l, func() {
		if got := l.Log(from); !slices.Equal(got, want) {
			t.Errorf("Log(%d): %s, want %s", from, briefs(got), briefs(want))
		}
	})
}

// wantTrim is for a Trim behind which base is the first slot.
func wantTrim(t *testing.T, l *learner.Learner, upto, base, want int) {
	t.Helper()
	next := l.Next()
	if got := l.Trim(upto); got != want {
		t.Errorf("Trim(%d): %d, want %d", upto, got, want)
	}
	wantState(t, l, base, next)
}

// wantSame is for a call that changes nothing that is told.
func wantSame(t *testing.T, l *learner.Learner, call func()) {
	t.Helper()
	base, next, log := l.Base(), l.Next(), l.Log(0)
	call()
	wantState(t, l, base, next)
	if got := l.Log(0); !slices.Equal(got, log) {
		t.Errorf("the log is %s now, it was %s", briefs(got), briefs(log))
	}
}

func TestNew(t *testing.T) {
	for n := 1; n <= mostNodes; n++ {
		l := among(t, n)
		wantState(t, l, 0, 0)
		wantLog(t, l, 0)
		wantNotTold(t, l, 0, 1, maxLog-1)
	}
	for _, n := range []int{0, -1, mostNodes + 1, 64, 1<<32 + 3, math.MinInt, math.MaxInt} {
		if learner.New(n) != nil {
			t.Errorf("New(%d): want nil", n)
		}
	}
	if a, b := among(t, 3), among(t, 3); a == b {
		t.Errorf("New tells the same thing twice")
	}
}

// The chapter's example.
func TestTwoOfThree(t *testing.T) {
	l := among(t, 3)
	wantHeard(t, l, 0, vote(0, 1, 0, "x"))
	wantChosen(t, l, 1, vote(0, 1, 0, "x"))
	wantState(t, l, 0, 1)
	wantLog(t, l, 0, "x")
}

// Just when Quorum nodes agree the slot is told, whatever node comes when.
func TestHearOfEachQuorum(t *testing.T) {
	for n := 1; n <= mostNodes; n++ {
		for first := range n {
			l := among(t, n)
			for i := range n {
				from, v := (first*3+i*(n-1)+1)%n, vote(0, 4, 2, "x") // each of them, in some order
				if i == n/2 {
					wantChosen(t, l, from, v)
				} else {
					wantHeard(t, l, from, v)
				}
			}
			wantState(t, l, 0, 1)
		}
	}
}

// A node's vote counts once, however often it comes.
func TestHearTwice(t *testing.T) {
	for n := 2; n <= mostNodes; n++ {
		l, v := among(t, n), vote(3, 1, 0, "x")
		for from := range n / 2 {
			for range n {
				wantHeard(t, l, from, v)
				wantHeard(t, l, 0, v)
			}
		}
		wantChosen(t, l, n-1, v)
	}
}

func TestHearRefusesNodes(t *testing.T) {
	for n := 1; n <= mostNodes; n++ {
		l, v := among(t, n), vote(0, 1, 0, "x")
		for _, from := range badNodes(n) {
			wantHeard(t, l, from, v, v)
		}
		for from := range n / 2 {
			wantHeard(t, l, from, v)
		}
		for _, from := range badNodes(n) {
			wantHeard(t, l, from, v)
		}
		wantChosen(t, l, n-1, v)
	}
}

// A ballot that may not be counts for nobody, and takes no place of one that may.
func TestHearRefusesBallots(t *testing.T) {
	for _, b := range badBallots() {
		bad := api.Vote{Slot: 2, Ballot: b, Value: "x"}
		wantHeard(t, among(t, 1), 0, bad, bad)
		l := among(t, 3)
		for from := range 3 {
			wantHeard(t, l, from, bad)
		}
		wantNotTold(t, l, 2)
		wantHeard(t, l, 0, vote(2, 0, 0, "y"), bad)
		wantHeard(t, l, 1, bad)
		wantChosen(t, l, 1, vote(2, 0, 0, "y"))
	}
	for _, b := range []api.Ballot{bal(0, 0), bal(0, 6), bal(lastN, 0), bal(lastN, 6)} {
		wantChosen(t, among(t, 1), 0, api.Vote{Ballot: b, Value: "x"})
	}
}

// A vote's ballot may be of a node that the group does not have.
func TestHearOfBallotsOfOthers(t *testing.T) {
	l := among(t, 2)
	wantHeard(t, l, 0, vote(0, 0, 6, "x"))
	wantChosen(t, l, 1, vote(0, 0, 6, "x"))
}

func TestHearRefusesSlots(t *testing.T) {
	l := among(t, 1)
	for _, slot := range badSlots() {
		wantHeard(t, l, 0, vote(slot, 1, 0, "x"))
		wantNotTold(t, l, slot)
	}
	wantChosen(t, l, 0, vote(maxLog-1, 1, 0, "last"))
	wantState(t, l, 0, 0)
	wantChosen(t, l, 0, vote(0, 1, 0, "first"))
	wantState(t, l, 0, 1)
	wantTrim(t, l, 1, 1, 1)
	wantHeard(t, l, 0, vote(0, 2, 0, "below the base"))
	wantNotTold(t, l, 0)
	wantChosen(t, l, 0, vote(1, 1, 0, "at the base"))
}

func TestHearOfLongValues(t *testing.T) {
	long := strings.Repeat("v", mostBody)
	for _, value := range []string{long + "v", long + long, strings.Repeat("v", 1<<20), strings.Repeat("\u20ac", mostBody/3+1)} {
		l := among(t, 3)
		wantHeard(t, l, 0, vote(0, 9, 0, value))
		wantHeard(t, l, 1, vote(0, 9, 0, value))
		wantNotTold(t, l, 0)
		wantHeard(t, l, 0, vote(0, 1, 0, "x")) // that greater ballot did not count
		wantChosen(t, l, 1, vote(0, 1, 0, "x"))
	}
	odd := "\x00\xff\xfe\n\x80"
	for slot, value := range []string{long, long[1:], "", odd} {
		l := among(t, 3)
		wantHeard(t, l, 2, vote(slot, 1, 0, value))
		wantChosen(t, l, 0, vote(slot, 1, 0, value))
	}
}

// Nodes agree on the ballot and the value, not on one of the two.
func TestHearOfUnlikeVotes(t *testing.T) {
	l := among(t, 5)
	wantHeard(t, l, 0, vote(0, 2, 1, "x"))
	wantHeard(t, l, 1, vote(0, 2, 1, "y"))
	wantHeard(t, l, 2, vote(0, 2, 2, "x"))
	wantHeard(t, l, 3, vote(0, 3, 1, "x"))
	wantHeard(t, l, 4, vote(0, 2, 1, "x"))
	wantNotTold(t, l, 0)
	wantHeard(t, l, 1, vote(0, 3, 1, "x"))
	wantChosen(t, l, 4, vote(0, 3, 1, "x"))
}

// The empty value is one: it is unlike no vote at all.
func TestHearOfEmptyValues(t *testing.T) {
	l := among(t, 3)
	wantHeard(t, l, 2, vote(0, 0, 0, ""))
	wantNotTold(t, l, 0)
	wantChosen(t, l, 1, vote(0, 0, 0, ""))
	wantLog(t, l, 0, "")
}

// A node's vote by a greater ballot stands in the place of the one by a lesser ballot.
func TestHearOfGreaterBallots(t *testing.T) {
	for _, greater := range []api.Ballot{bal(3, 2), bal(4, 0), bal(lastN, 6)} {
		l, old, young := among(t, 3), vote(5, 3, 1, "x"), api.Vote{Slot: 5, Ballot: greater, Value: "x"}
		wantHeard(t, l, 0, old, young)
		wantHeard(t, l, 1, old) // node 0's is no such vote any more
		wantChosen(t, l, 2, young)
	}
}

// A node's vote by a lesser ballot does not count, nor another one by the same.
func TestHearOfLesserBallots(t *testing.T) {
	for _, late := range []api.Vote{vote(5, 3, 0, "y"), vote(5, 2, 6, "y"), vote(5, 0, 0, "y"), vote(5, 3, 1, "y"), vote(5, 2, 1, "x")} {
		l := among(t, 3)
		wantHeard(t, l, 0, vote(5, 3, 1, "x"), late)
		wantHeard(t, l, 1, late)
		wantNotTold(t, l, 5)
		wantChosen(t, l, 2, late)
		l = among(t, 3)
		wantHeard(t, l, 0, vote(5, 3, 1, "x"), late)
		wantChosen(t, l, 2, vote(5, 3, 1, "x"))
	}
}

// Slots are apart from one another: a node has a vote for each.
func TestHearOfManySlots(t *testing.T) {
	l := among(t, 3)
	wantHeard(t, l, 0, vote(1, 5, 0, "one"), vote(0, 1, 0, "zero"), vote(2, 1, 0, "zero"))
	wantHeard(t, l, 1, vote(2, 1, 0, "two"))
	wantChosen(t, l, 1, vote(1, 5, 0, "one"))
	wantState(t, l, 0, 0)
	wantChosen(t, l, 2, vote(0, 1, 0, "zero"))
	wantState(t, l, 0, 2)
	wantNotTold(t, l, 2)
	wantChosen(t, l, 2, vote(2, 1, 0, "two"))
	wantLog(t, l, 0, "zero", "one", "two")
}

// What is told stays, whoever votes otherwise then.
func TestHearOfWhatIsTold(t *testing.T) {
	l := with(t, 1, "told")
	wantChosen(t, l, 0, vote(1, 1, 0, "chosen"))
	for slot := range 2 {
		wantHeard(t, l, 0, vote(slot, 1, 0, "chosen"), vote(slot, 9, 0, "another"), vote(slot, lastN, 6, ""))
	}
	wantLog(t, l, 0, "told", "chosen")
}

func TestHearOfAllSlots(t *testing.T) {
	l := among(t, 3)
	var want []string
	for i := range maxLog {
		slot := i * 389 % maxLog // each of them, in no order
		value := fmt.Sprint("value ", slot)
		if l.Hear(0, vote(slot, 1, 0, value)) || !l.Hear(2, vote(slot, 1, 0, value)) || l.Hear(1, vote(slot, 1, 0, value)) {
			t.Fatalf("slot %d: just the second vote should tell it", slot)
		}
		want = append(want, fmt.Sprint("value ", i))
	}
	wantState(t, l, 0, maxLog)
	wantLog(t, l, 0, want...)
	wantLog(t, l, maxLog-1, want[maxLog-1])
	wantLog(t, l, maxLog)
	wantHeard(t, l, 0, vote(maxLog, 1, 0, "x"))
	wantTrim(t, l, math.MaxInt, maxLog, maxLog)
	wantLog(t, l, 0)
	wantHeard(t, l, 0, vote(maxLog-1, 2, 0, "x"), vote(maxLog, 2, 0, "x"))
	wantNoTell(t, l, maxLog-1, "x")
	wantNoTell(t, l, maxLog, "x")
}

func TestTold(t *testing.T) {
	l := with(t, 3, "zero", "")
	wantTell(t, l, 3, "three")
	wantTold(t, l, 0, "zero")
	wantTold(t, l, 1, "")
	wantTold(t, l, 3, "three") // beyond Next, too
	wantNotTold(t, l, 2, 4, maxLog-1)
	wantNotTold(t, l, badSlots()...)
	wantHeard(t, l, 0, vote(2, 1, 0, "two"))
	wantNotTold(t, l, 2) // one vote is not enough
	wantTrim(t, l, 2, 2, 2)
	wantNotTold(t, l, 0, 1)
	wantTold(t, l, 3, "three")
}

func TestTell(t *testing.T) {
	l := among(t, 7)
	wantTell(t, l, 1, "one")
	wantNoTell(t, l, 1, "one")
	wantNoTell(t, l, 1, "another")
	wantState(t, l, 0, 0)
	wantTell(t, l, 0, "")
	wantState(t, l, 0, 2)
	wantTell(t, l, maxLog-1, "last")
	wantLog(t, l, 0, "", "one")
}

func TestTellRefusesSlots(t *testing.T) {
	l := with(t, 3, "zero", "one", "two")
	for _, slot := range badSlots() {
		wantNoTell(t, l, slot, "x")
	}
	wantTrim(t, l, 2, 2, 2)
	wantNoTell(t, l, 0, "below the base")
	wantNoTell(t, l, 1, "below the base")
	wantNoTell(t, l, 2, "told already")
	wantNotTold(t, l, 0, 1)
	wantTell(t, l, 3, "three")
}

func TestTellOfLongValues(t *testing.T) {
	l := among(t, 3)
	long := strings.Repeat("v", mostBody)
	for _, value := range []string{long + "v", strings.Repeat("v", 1<<20), strings.Repeat("\u20ac", mostBody/3+1)} {
		wantNoTell(t, l, 0, value)
		wantNotTold(t, l, 0)
	}
	wantTell(t, l, 0, long)
	wantNoTell(t, l, 0, long+"v")
	wantTell(t, l, 1, long[1:])
	wantTell(t, l, 2, "\x00\xff\xfe\n\x80")
}

// What is told does not ask what was voted, and what was voted is no more then.
func TestTellAheadOfVotes(t *testing.T) {
	l := among(t, 3)
	wantHeard(t, l, 0, vote(0, 1, 0, "voted"))
	wantTell(t, l, 0, "told")
	wantHeard(t, l, 1, vote(0, 1, 0, "voted"))
	wantHeard(t, l, 2, vote(0, 9, 0, "voted"))
	wantTold(t, l, 0, "told")
	wantChosen(t, with(t, 1, "x"), 0, vote(1, 1, 0, "y"))
}

// Tell of what is refused leaves the votes that were heard.
func TestTellThatIsRefused(t *testing.T) {
	l := among(t, 3)
	wantHeard(t, l, 0, vote(0, 1, 0, "x"))
	wantNoTell(t, l, 0, strings.Repeat("v", mostBody+1))
	wantChosen(t, l, 1, vote(0, 1, 0, "x"))
}

func TestNext(t *testing.T) {
	l := among(t, 1)
	wantState(t, l, 0, 0)
	for _, slot := range []int{1, 2, 4} {
		wantTell(t, l, slot, "x")
		wantState(t, l, 0, 0)
	}
	wantTell(t, l, 0, "x")
	wantState(t, l, 0, 3)
	wantChosen(t, l, 0, vote(3, 1, 0, "x"))
	wantState(t, l, 0, 5)
	wantTrim(t, l, 4, 4, 4)
	wantState(t, l, 4, 5)
	wantTrim(t, l, 5, 5, 1)
	wantTell(t, l, 6, "x")
	wantState(t, l, 5, 5)
	wantTell(t, l, 5, "x")
	wantState(t, l, 5, 7)
}

func TestLog(t *testing.T) {
	l := with(t, 3, "a", "b", "", "d", "e")
	wantTell(t, l, 6, "behind a gap")
	all := []string{"a", "b", "", "d", "e"}
	for from := range all {
		wantLog(t, l, from, all[from:]...)
	}
	for _, from := range []int{-1, -maxLog, -1 << 32, math.MinInt} {
		wantLog(t, l, from, all...)
	}
	for _, from := range []int{5, 6, 7, maxLog - 1, maxLog, 1 << 32, math.MaxInt} {
		wantLog(t, l, from)
	}
	wantTrim(t, l, 2, 2, 2)
	for _, from := range []int{math.MinInt, -1, 0, 1, 2} {
		wantLog(t, l, from, "", "d", "e")
	}
	wantLog(t, l, 3, "d", "e")
	wantTell(t, l, 5, "f")
	wantLog(t, l, 4, "e", "f", "behind a gap")
}

func TestTrim(t *testing.T) {
	l := with(t, 3, "a", "b", "c", "d")
	wantTell(t, l, 5, "f")
	for _, upto := range []int{0, -1, -maxLog, math.MinInt} {
		wantTrim(t, l, upto, 0, 0)
		wantLog(t, l, 0, "a", "b", "c", "d")
	}
	wantTrim(t, l, 1, 1, 1)
	wantTrim(t, l, 1, 1, 0)
	wantTrim(t, l, 3, 3, 2)
	wantTrim(t, l, 2, 3, 0) // never back
	wantTrim(t, l, 0, 3, 0)
	wantNotTold(t, l, 0, 1, 2)
	wantTold(t, l, 3, "d")
	wantLog(t, l, 0, "d")
	wantTrim(t, l, 5, 4, 1) // at most Next
	for _, upto := range []int{5, 6, maxLog, maxLog + 1, math.MaxInt} {
		wantTrim(t, l, upto, 4, 0)
	}
	wantTold(t, l, 5, "f")
	wantTell(t, l, 4, "e")
	wantTrim(t, l, math.MaxInt, 6, 2)
	wantLog(t, l, 0)
}

func TestTrimOfNothing(t *testing.T) {
	l := among(t, 3)
	for _, upto := range []int{0, 1, maxLog, math.MaxInt, math.MinInt} {
		wantTrim(t, l, upto, 0, 0)
	}
	wantTell(t, l, 1, "x") // behind a gap nothing goes
	wantTrim(t, l, 2, 0, 0)
	wantTold(t, l, 1, "x")
}

// What was heard of slots that stay is there behind a Trim.
func TestTrimLeavesVotes(t *testing.T) {
	l := with(t, 3, "a", "b")
	wantHeard(t, l, 0, vote(2, 1, 0, "c"), vote(3, 1, 0, "d"))
	wantTrim(t, l, math.MaxInt, 2, 2)
	wantChosen(t, l, 1, vote(2, 1, 0, "c"))
	wantChosen(t, l, 1, vote(3, 1, 0, "d"))
	wantLog(t, l, 0, "c", "d")
}

func TestBase(t *testing.T) {
	l := with(t, 1, "a", "b")
	wantTell(t, l, 2, "c")
	wantState(t, l, 0, 3)
	wantTrim(t, l, 2, 2, 2)
	wantChosen(t, l, 0, vote(3, 1, 0, "d"))
	wantState(t, l, 2, 4)
}

func TestNil(t *testing.T) {
	var l *learner.Learner
	wantHeard(t, l, 0, vote(0, 0, 0, "x"), vote(-1, -1, -1, ""))
	wantNoTell(t, l, 0, "x")
	wantNotTold(t, l, 0, 1, -1)
	wantLog(t, l, 0)
	wantTrim(t, l, 5, 0, 0)
	wantState(t, l, 0, 0)
}

func shares(a, b string) bool {
	return len(a) > 0 && len(b) > 0 && unsafe.StringData(a) == unsafe.StringData(b)
}

func TestAnswersAreNewMemory(t *testing.T) {
	value := strings.Clone("a value")
	l := among(t, 1)
	wantTell(t, l, 0, value)
	wantChosen(t, l, 0, vote(1, 1, 0, value))
	all := []string{value}
	for slot := range 2 {
		for range 2 {
			s, _ := l.Told(slot)
			all = append(all, s)
			all = append(all, l.Log(slot)...)
		}
	}
	for i, a := range all {
		if a != "a value" {
			t.Errorf("%d: %q", i, a)
		}
		for j, b := range all[:i] {
			if shares(a, b) {
				t.Errorf("%d and %d share the text of a value", i, j)
			}
		}
	}
	log := l.Log(0)
	log[0] = "spoilt"
	_ = append(log[:1], "spoilt")
	wantLog(t, l, 0, "a value", "a value")
}

package troop_test

import (
	"fmt"
	"math"
	"slices"
	"strings"
	"testing"
	"unsafe"

	"hurdle/api"
	"hurdle/troop"
)

const (
	mostNodes = 7
	mostWay   = 1024
	mostLog   = 1024
	mostBody  = 4096
	mostTold  = 8
)

// mostNotes is far more than all that may be said behind what one test does at once.
const mostNotes = 100000

// badNodes are those that no troop of n nodes has.
func badNodes(n int) []int {
	return []int{-1, -n, n, n + 1, mostNodes, 64, 1 << 32, -1 << 32, math.MinInt, math.MaxInt}
}

func newTroop(t *testing.T, n int) *troop.Troop {
	t.Helper()
	tr := troop.New(n)
	if tr == nil {
		t.Fatalf("New(%d): nil", n)
	}
	return tr
}

// short tells a value, of a long one its length alone.
func short(value string) string {
	if len(value) > 20 {
		return fmt.Sprint(len(value), " bytes")
	}
	return fmt.Sprintf("%q", value)
}

func shorts(l []string) string {
	var parts []string
	for _, value := range l {
		parts = append(parts, short(value))
	}
	return "[" + strings.Join(parts, ", ") + "]"
}

func want(t *testing.T, what string, got, want bool) {
	t.Helper()
	if got != want {
		t.Errorf("%s: %v, want %v", what, got, want)
	}
}

func wantPropose(t *testing.T, tr *troop.Troop, node int, value string, want api.Errno) {
	t.Helper()
	if got := tr.Propose(node, value); got != want {
		t.Errorf("Propose(%d, %s): %d, want %d", node, short(value), got, want)
	}
}

func wantWaiting(t *testing.T, tr *troop.Troop, count int) {
	t.Helper()
	if got := tr.Waiting(); got != count {
		t.Errorf("Waiting: %d, want %d", got, count)
	}
}

func wantLog(t *testing.T, tr *troop.Troop, node int, log ...string) {
	t.Helper()
	if got := tr.Log(node); !slices.Equal(got, log) {
		t.Errorf("node %d's log is %s, want %s", node, shorts(got), shorts(log))
	}
}

// wantLogs asks that each of n nodes has this log.
func wantLogs(t *testing.T, tr *troop.Troop, n int, log ...string) {
	t.Helper()
	for node := range n {
		wantLog(t, tr, node, log...)
	}
}

// wantLeads asks that of n nodes those and no other ones lead.
func wantLeads(t *testing.T, tr *troop.Troop, n int, nodes ...int) {
	t.Helper()
	for node := range n {
		if got := tr.Leads(node); got != slices.Contains(nodes, node) {
			t.Errorf("node %d leads: %v", node, got)
		}
	}
}

// settle lets all notes be taken in their order, with all that is said then, and tells how many they were.
func settle(tr *troop.Troop) int {
	sum := 0
	for sum < mostNotes && tr.Deliver(0) {
		sum++
	}
	return sum
}

// lose lets all notes but the first count of them go out.
func lose(tr *troop.Troop, count int) {
	for range tr.Waiting() - count {
		tr.Drop(count)
	}
}

// led is a troop of n nodes, of which node me leads, with all that was proposed in all logs.
func led(t *testing.T, n, me int, values ...string) *troop.Troop {
	t.Helper()
	tr := newTroop(t, n)
	want(t, "Lead", tr.Lead(me), true)
	settle(tr)
	for _, value := range values {
		wantPropose(t, tr, me, value, api.OK)
		settle(tr)
	}
	wantLeads(t, tr, n, me)
	wantLogs(t, tr, n, values...)
	wantWaiting(t, tr, 0)
	return tr
}

// known is the one value of the logs by which askers are told.
const known = "known"

// asking is a troop of 5 nodes, of which node 0 alone knows a value, with a note of each of these nodes under way that asks it for that.
func asking(t *testing.T, nodes ...int) *troop.Troop {
	t.Helper()
	tr := led(t, 5, 0, known)
	forget(t, tr)
	for i, node := range nodes {
		want(t, "Ask", tr.Ask(node, 0), true)
		wantWaiting(t, tr, i+1)
	}
	return tr
}

// forget lets all nodes but node 0 know nothing.
func forget(t *testing.T, tr *troop.Troop) {
	t.Helper()
	for node := 1; node < 5; node++ {
		want(t, "Crash", tr.Crash(node), true)
		wantLog(t, tr, node)
	}
}

// wantAsker lets the note i be taken, which is to be node's; it is told by its log behind the answer, which goes out as well.
func wantAsker(t *testing.T, tr *troop.Troop, i, node int) {
	t.Helper()
	forget(t, tr)
	count := tr.Waiting()
	want(t, "Deliver", tr.Deliver(i), true)
	wantWaiting(t, tr, count)
	want(t, "Deliver of the answer", tr.Deliver(count-1), true)
	wantWaiting(t, tr, count-1)
	for other := 1; other < 5; other++ {
		if other == node {
			wantLog(t, tr, other, known)
		} else {
			wantLog(t, tr, other)
		}
	}
}

// wantAskers asks that these nodes' notes are all that are under way, in that order; none is left.
func wantAskers(t *testing.T, tr *troop.Troop, nodes ...int) {
	t.Helper()
	wantWaiting(t, tr, len(nodes))
	for _, node := range nodes {
		wantAsker(t, tr, 0, node)
	}
	wantWaiting(t, tr, 0)
}

// namesOfThree are, of each of three notes, numbers by which it may be named.
func namesOfThree() [3][]int {
	var all [3][]int
	for place := range 3 {
		all[place] = []int{place, place + 3, place - 3, place + 3000, place - 3000, place + math.MaxInt/3*3 - 3, place + math.MinInt/3*3}
	}
	all[math.MaxInt%3] = append(all[math.MaxInt%3], math.MaxInt)
	all[math.MinInt%3+3] = append(all[math.MinInt%3+3], math.MinInt)
	return all
}

// without is the askers of namesOfThree's notes but the one at place.
func without(place int) []int {
	return slices.Delete([]int{1, 2, 3}, place, place+1)
}

// fill lets so many notes be under way, by what says nothing more when it is taken: nobody knows a value.
func fill(t *testing.T, tr *troop.Troop, count int) {
	t.Helper()
	for tr.Waiting() < count {
		if was := tr.Waiting(); !tr.Ask(0, 0) || tr.Waiting() != was+1 {
			t.Fatalf("%d notes are under way, want %d", tr.Waiting(), was+1)
		}
	}
}

// The chapter's example, and the like of all troops.
func TestExample(t *testing.T) {
	for n := 1; n <= mostNodes; n++ {
		for me := range n {
			led(t, n, me, "v", "", "third")
		}
	}
}

func TestNew(t *testing.T) {
	for _, n := range []int{math.MinInt, -1 << 32, -7, -1, 0, 1, 2, 3, 4, 5, 6, 7, 8, 1 << 32, 1<<32 + 3, math.MaxInt} {
		tr := troop.New(n)
		if there := 1 <= n && n <= mostNodes; (tr != nil) != there {
			t.Errorf("New(%d): one is there %v, want %v", n, tr != nil, there)
		}
		if tr == nil {
			continue
		}
		wantWaiting(t, tr, 0)
		wantLeads(t, tr, n)
		wantLogs(t, tr, n)
		for node := range n {
			wantPropose(t, tr, node, "x", api.ErrState)
		}
		for _, node := range badNodes(n) {
			want(t, "Crash of none", tr.Crash(node), false)
		}
	}
}

func TestTroopsAreApart(t *testing.T) {
	a, b := led(t, 3, 1, "x"), newTroop(t, 3)
	want(t, "Lead", a.Lead(2), true)
	wantWaiting(t, b, 0)
	wantLeads(t, b, 3)
	wantLogs(t, b, 3)
	settle(b)
	wantWaiting(t, a, 3)
}

// A note of each node is under way; when a quorum promised, the node leads.
func TestLead(t *testing.T) {
	for n := 1; n <= mostNodes; n++ {
		for me := range n {
			tr := newTroop(t, n)
			want(t, "Lead", tr.Lead(me), true)
			wantWaiting(t, tr, n)
			for range n {
				wantLeads(t, tr, n)
				want(t, "Deliver", tr.Deliver(0), true)
				wantWaiting(t, tr, n)
			}
			for i := range n {
				want(t, "Deliver", tr.Deliver(0), true)
				wantWaiting(t, tr, n-i-1)
				if 2*(i+1) > n {
					wantLeads(t, tr, n, me)
				} else {
					wantLeads(t, tr, n)
				}
			}
		}
	}
}

func TestLeadOfNone(t *testing.T) {
	for _, n := range []int{1, 3, mostNodes} {
		tr := led(t, n, 0, "x")
		for _, node := range badNodes(n) {
			want(t, "Lead", tr.Lead(node), false)
			wantWaiting(t, tr, 0)
		}
		wantLeads(t, tr, n, 0)
	}
}

// One that leads asks anew, and leads no more till it is promised.
func TestLeadAgain(t *testing.T) {
	tr := led(t, 3, 0)
	want(t, "Lead", tr.Lead(0), true)
	wantLeads(t, tr, 3)
	wantWaiting(t, tr, 3)
	settle(tr)
	wantLeads(t, tr, 3, 0)
	want(t, "Lead of another one", tr.Lead(2), true)
	wantLeads(t, tr, 3, 0)
	settle(tr)
	wantLeads(t, tr, 3, 2)
}

// A node whose replica says nothing is a node still.
func TestLeadOfFullLog(t *testing.T) {
	tr := newTroop(t, 1)
	tr.Lead(0)
	settle(tr)
	for range mostLog {
		wantPropose(t, tr, 0, "x", api.OK)
		settle(tr)
	}
	if got := len(tr.Log(0)); got != mostLog {
		t.Errorf("the log has %d values", got)
	}
	wantPropose(t, tr, 0, "x", api.ErrFull)
	want(t, "Lead", tr.Lead(0), true)
	wantWaiting(t, tr, 0)
	wantLeads(t, tr, 1, 0)
}

func TestAsk(t *testing.T) {
	values := []string{"a", "b", "", "d"}
	tr := led(t, 4, 2, values...)
	want(t, "Crash", tr.Crash(1), true)
	want(t, "Ask", tr.Ask(1, 3), true)
	wantWaiting(t, tr, 1)
	wantLog(t, tr, 1)
	want(t, "Deliver", tr.Deliver(0), true)
	wantWaiting(t, tr, 1)
	wantLog(t, tr, 1)
	want(t, "Deliver of the answer", tr.Deliver(0), true)
	wantWaiting(t, tr, 0)
	wantLogs(t, tr, 4, values...)
	want(t, "Ask of one that knows no more", tr.Ask(1, 2), true)
	wantWaiting(t, tr, 1)
	settle(tr)
	wantLogs(t, tr, 4, values...)
}

func TestAskOfItself(t *testing.T) {
	tr := led(t, 3, 0, "x")
	for node := range 3 {
		want(t, "Ask", tr.Ask(node, node), true)
		wantWaiting(t, tr, 1)
		want(t, "Deliver", tr.Deliver(0), true)
		wantWaiting(t, tr, 0)
	}
	wantLogs(t, tr, 3, "x")
}

func TestAskTillAllIsKnown(t *testing.T) {
	var values []string
	for i := range 2*mostTold + 1 {
		values = append(values, fmt.Sprint("value ", i))
	}
	tr := led(t, 2, 1, values...)
	tr.Crash(0)
	for _, size := range []int{mostTold, 2 * mostTold, 2*mostTold + 1} {
		want(t, "Ask", tr.Ask(0, 1), true)
		settle(tr)
		wantLog(t, tr, 0, values[:size]...)
	}
}

func TestAskOfNone(t *testing.T) {
	for _, n := range []int{1, 3, mostNodes} {
		tr := led(t, n, 0, "x")
		for _, node := range badNodes(n) {
			want(t, "Ask by none", tr.Ask(node, 0), false)
			want(t, "Ask of none", tr.Ask(0, node), false)
			want(t, "Ask of none by none", tr.Ask(node, node), false)
			wantWaiting(t, tr, 0)
		}
	}
}

func TestPropose(t *testing.T) {
	for n := 1; n <= mostNodes; n++ {
		tr := led(t, n, n-1, "first")
		wantPropose(t, tr, n-1, "second", api.OK)
		wantWaiting(t, tr, n)
		wantLogs(t, tr, n, "first")
		for range n { // each says to each that it accepts
			want(t, "Deliver", tr.Deliver(0), true)
		}
		wantWaiting(t, tr, n*n)
		settle(tr)
		wantLogs(t, tr, n, "first", "second")
	}
}

func TestProposeRefuses(t *testing.T) {
	most := strings.Repeat("v", mostBody)
	tr := led(t, 3, 1)
	for _, node := range badNodes(3) {
		wantPropose(t, tr, node, "x", api.ErrArg)
		wantPropose(t, tr, node, most+"v", api.ErrArg)
	}
	wantPropose(t, tr, 0, "x", api.ErrState)
	wantPropose(t, tr, 2, "", api.ErrState)
	wantPropose(t, tr, 0, most+"v", api.ErrSize)
	wantPropose(t, tr, 1, most+"v", api.ErrSize)
	wantWaiting(t, tr, 0)
	wantPropose(t, tr, 1, most, api.OK)
	settle(tr)
	wantLogs(t, tr, 3, most)
}

func TestProposeTillTheEnd(t *testing.T) {
	tr := led(t, 3, 0)
	for range mostLog {
		wantPropose(t, tr, 0, "x", api.OK)
		lose(tr, 0)
	}
	for _, node := range []int{0, 0} {
		wantPropose(t, tr, node, "x", api.ErrFull)
		wantWaiting(t, tr, 0)
	}
	wantPropose(t, tr, 1, "x", api.ErrState)
	wantPropose(t, tr, 3, "x", api.ErrArg)
}

func TestDeliver(t *testing.T) {
	for place, names := range namesOfThree() {
		for _, i := range names {
			tr := asking(t, 1, 2, 3)
			wantAsker(t, tr, i, place+1)
			wantAskers(t, tr, without(place)...)
		}
	}
}

// What is said when a note is taken is under way behind all.
func TestDeliverSaysBehindAll(t *testing.T) {
	tr := asking(t, 1, 2, 3)
	want(t, "Deliver", tr.Deliver(1), true)
	wantWaiting(t, tr, 3)
	want(t, "Deliver of the answer", tr.Deliver(2), true)
	wantLog(t, tr, 2, known)
	wantAskers(t, tr, 1, 3)
}

// None is under way: at first, and behind the last.
func TestOfNoNote(t *testing.T) {
	for _, tr := range []*troop.Troop{newTroop(t, 3), led(t, 3, 0, "x")} {
		for _, i := range []int{0, 1, -1, 1024, math.MinInt, math.MaxInt} {
			want(t, "Deliver of none", tr.Deliver(i), false)
			want(t, "Drop of none", tr.Drop(i), false)
			want(t, "Double of none", tr.Double(i), false)
			wantWaiting(t, tr, 0)
		}
	}
}

func TestDrop(t *testing.T) {
	for place, names := range namesOfThree() {
		for _, i := range names {
			tr := asking(t, 1, 2, 3)
			want(t, "Drop", tr.Drop(i), true)
			wantLogs(t, tr, 1, known)
			wantAskers(t, tr, without(place)...)
		}
	}
}

// What goes out is not taken: of three nodes one's promise is too few.
func TestDropIsNotTaken(t *testing.T) {
	tr := newTroop(t, 3)
	tr.Lead(1)
	want(t, "Drop", tr.Drop(0), true)
	want(t, "Drop", tr.Drop(-1), true)
	wantWaiting(t, tr, 1)
	if sum := settle(tr); sum != 2 {
		t.Errorf("%d notes are taken, want 2", sum)
	}
	wantLeads(t, tr, 3)
}

func TestDouble(t *testing.T) {
	for place, names := range namesOfThree() {
		for _, i := range names {
			tr := asking(t, 1, 2, 3)
			want(t, "Double", tr.Double(i), true)
			wantAskers(t, tr, 1, 2, 3, place+1)
		}
	}
}

// One that is doubled may be doubled again, and each one is apart from the others.
func TestDoubleOfDoubled(t *testing.T) {
	tr := asking(t, 1, 2)
	want(t, "Double", tr.Double(1), true)
	want(t, "Double", tr.Double(2), true)
	want(t, "Double", tr.Double(0), true)
	want(t, "Drop", tr.Drop(1), true)
	wantAskers(t, tr, 1, 2, 2, 1)
}

// A promise that comes twice is that of one node.
func TestDoubleCountsOnce(t *testing.T) {
	tr := newTroop(t, 3)
	tr.Lead(0)
	lose(tr, 1)
	want(t, "Double", tr.Double(0), true)
	if sum := settle(tr); sum != 4 {
		t.Errorf("%d notes are taken, want 4", sum)
	}
	wantLeads(t, tr, 3)
}

// What is said beyond MaxWay notes is lost, and there is room again for each one that goes out.
func TestMostWay(t *testing.T) {
	tr := newTroop(t, 3)
	fill(t, tr, mostWay)
	want(t, "Ask", tr.Ask(1, 2), true)
	wantWaiting(t, tr, mostWay)
	want(t, "Lead", tr.Lead(0), true)
	wantWaiting(t, tr, mostWay)
	want(t, "Drop", tr.Drop(500), true)
	wantWaiting(t, tr, mostWay-1)
	want(t, "Lead", tr.Lead(0), true)
	wantWaiting(t, tr, mostWay)
	for i := range mostWay {
		want(t, "Drop", tr.Drop(i), true)
		wantWaiting(t, tr, mostWay-i-1)
	}
	want(t, "Drop of none", tr.Drop(0), false)
}

func TestDoubleWhenFull(t *testing.T) {
	tr := newTroop(t, 3)
	fill(t, tr, mostWay-1)
	want(t, "Double up to the last", tr.Double(5), true)
	wantWaiting(t, tr, mostWay)
	for _, i := range []int{0, 5, -1, mostWay} {
		want(t, "Double of one more", tr.Double(i), false)
		wantWaiting(t, tr, mostWay)
	}
	want(t, "Drop", tr.Drop(0), true)
	want(t, "Double where one went", tr.Double(0), true)
	want(t, "Double of one more", tr.Double(0), false)
	wantWaiting(t, tr, mostWay)
}

// Of what is said when few more may be under way the first notes are: of three of five nodes a value is told, of two it is not.
func TestFirstOfWhatIsSaid(t *testing.T) {
	for room := range 7 {
		tr := led(t, 5, 4)
		fill(t, tr, mostWay-room)
		wantPropose(t, tr, 4, "v", api.OK)
		wantWaiting(t, tr, min(mostWay, mostWay-room+5))
		for range mostWay - room {
			want(t, "Drop", tr.Drop(0), true)
		}
		said := min(room, 5)
		if sum := settle(tr); sum != 6*said {
			t.Errorf("%d notes are taken, want %d", sum, 6*said)
		}
		if said >= 3 {
			wantLogs(t, tr, 5, "v")
		} else {
			wantLogs(t, tr, 5)
		}
	}
}

// The first of what is said are those to the first nodes, in order.
func TestFirstNodes(t *testing.T) {
	tr := led(t, 3, 2)
	wantPropose(t, tr, 2, "v", api.OK)
	fill(t, tr, mostWay-1)
	want(t, "Deliver", tr.Deliver(0), true) // it goes out ahead of what is said, so two notes have room
	wantWaiting(t, tr, mostWay)
	want(t, "Deliver", tr.Deliver(0), true)
	wantWaiting(t, tr, mostWay) // one has room
	want(t, "Drop", tr.Drop(0), true)
	for range mostWay - 4 { // what it was filled by
		want(t, "Drop", tr.Drop(0), true)
	}
	// What node 0 says to nodes 0 and 1, and what node 1 says to node 0.
	for i := range 3 {
		wantLogs(t, tr, 3)
		want(t, "Deliver", tr.Deliver(0), true)
		wantWaiting(t, tr, 2-i)
	}
	wantLog(t, tr, 0, "v")
	wantLog(t, tr, 1)
	wantLog(t, tr, 2)
}

func TestCrash(t *testing.T) {
	tr := led(t, 3, 1, "x", "y")
	want(t, "Crash", tr.Crash(1), true)
	wantLeads(t, tr, 3)
	wantLog(t, tr, 0, "x", "y")
	wantLog(t, tr, 1)
	wantLog(t, tr, 2, "x", "y")
	wantPropose(t, tr, 1, "z", api.ErrState)
	wantWaiting(t, tr, 0)
}

func TestCrashOfNone(t *testing.T) {
	for _, n := range []int{1, 3, mostNodes} {
		tr := led(t, n, 0, "x")
		want(t, "Ask", tr.Ask(0, 0), true)
		for _, node := range badNodes(n) {
			want(t, "Crash", tr.Crash(node), false)
		}
		wantLeads(t, tr, n, 0)
		wantLogs(t, tr, n, "x")
		wantWaiting(t, tr, 1)
	}
}

// What a node said, and what was said to it, is under way still.
func TestCrashLeavesTheWay(t *testing.T) {
	tr := asking(t, 1, 2, 3)
	want(t, "Crash", tr.Crash(2), true)
	wantWaiting(t, tr, 3)
	wantAskers(t, tr, 1, 2, 3)

	tr = led(t, 3, 1)
	wantPropose(t, tr, 1, "v", api.OK)
	for node := range 3 {
		want(t, "Crash", tr.Crash(node), true)
	}
	wantWaiting(t, tr, 3)
	settle(tr)
	wantLogs(t, tr, 3, "v")
}

// What was accepted is there behind crashes: the next one that leads proposes it again.
func TestCrashLeavesWhatWasAccepted(t *testing.T) {
	for n := 1; n <= mostNodes; n++ {
		tr := led(t, n, 0)
		wantPropose(t, tr, 0, "v", api.OK)
		for range n {
			tr.Deliver(0)
		}
		lose(tr, 0)
		for node := range n {
			want(t, "Crash", tr.Crash(node), true)
		}
		wantLogs(t, tr, n)
		want(t, "Lead", tr.Lead(n-1), true)
		settle(tr)
		wantLeads(t, tr, n, n-1)
		wantLogs(t, tr, n, "v")
	}
}

func TestLogAndLeadsOfNone(t *testing.T) {
	for n := 1; n <= mostNodes; n++ {
		tr := led(t, n, n-1, "x")
		for _, node := range badNodes(n) {
			want(t, "Leads", tr.Leads(node), false)
			if got := tr.Log(node); len(got) != 0 {
				t.Errorf("none's log is %s", shorts(got))
			}
		}
	}
}

func TestNil(t *testing.T) {
	var tr *troop.Troop
	for _, i := range []int{0, 1, -1, math.MinInt, math.MaxInt} {
		want(t, "Lead", tr.Lead(i), false)
		wantPropose(t, tr, i, "x", api.ErrArg)
		wantPropose(t, tr, i, strings.Repeat("x", mostBody+1), api.ErrArg)
		want(t, "Ask", tr.Ask(i, i), false)
		want(t, "Deliver", tr.Deliver(i), false)
		want(t, "Drop", tr.Drop(i), false)
		want(t, "Double", tr.Double(i), false)
		want(t, "Crash", tr.Crash(i), false)
		want(t, "Leads", tr.Leads(i), false)
		wantLog(t, tr, i)
		wantWaiting(t, tr, 0)
	}
}

func shares(a, b string) bool {
	from, to := uintptr(unsafe.Pointer(unsafe.StringData(a))), uintptr(unsafe.Pointer(unsafe.StringData(b)))
	return a != "" && b != "" && from < to+uintptr(len(b)) && to < from+uintptr(len(a))
}

func TestAnswersAreNewMemory(t *testing.T) {
	value := strings.Clone("a value")
	tr := led(t, 3, 0, value, "second")
	logs := [][]string{tr.Log(0), tr.Log(0), tr.Log(1), tr.Log(2)}
	for i, a := range logs {
		if shares(a[0], value) {
			t.Error("a log shares memory with what was proposed")
		}
		for _, b := range logs[:i] {
			if shares(a[0], b[0]) {
				t.Error("logs share memory")
			}
		}
	}
	logs[0][0], logs[0][1] = "other", "others"
	_ = append(logs[1][:1], "more")
	wantLogs(t, tr, 3, value, "second")
}

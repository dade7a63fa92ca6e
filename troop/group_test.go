package troop_test

import (
	"fmt"
	"slices"
	"testing"

	"hurdle/api"
	"hurdle/troop"
)

// group is a troop to which anything happens, and what its logs ever had.
type group struct {
	lot      lot
	n        int
	troop    *troop.Troop
	proposed map[string]bool
	longest  []string // of all logs that there ever were the longest one
	sizes    []int    // of each node's log, as it was asked last
	crashes  int
}

func newGroup(t *testing.T, n int, seed lot) *group {
	t.Helper()
	return &group{lot: seed, n: n, troop: newTroop(t, n), proposed: map[string]bool{}, sizes: make([]int, n)}
}

// happens lets something be done, or be lost, doubled or late.
func (g *group) happens(now int) {
	node := g.lot.below(g.n)
	switch kind := g.lot.below(300); {
	case kind < 3:
		g.troop.Lead(node)
	case kind < 6:
		g.troop.Ask(node, g.lot.below(g.n))
	case kind < 24:
		value := fmt.Sprint("value ", now)
		if g.troop.Propose(node, value) == api.OK {
			g.proposed[value] = true
		}
	case kind < 25:
		if g.troop.Crash(node) && g.lot.below(2) == 0 {
			g.troop.Ask(node, g.lot.below(g.n))
		}
		g.sizes[node] = 0
		g.crashes++
	case kind < 38:
		g.troop.Drop(g.late())
	case kind < 50:
		g.troop.Double(g.late())
	default:
		g.troop.Deliver(g.late())
	}
	if g.troop.Waiting() > 200 {
		lose(g.troop, 50)
	}
}

// late is a note that is not the first one that was said, but not late for ever.
func (g *group) late() int {
	return g.lot.below(20)
}

// check asks of all logs that one is a beginning of the other one, and that what they had stays.
func (g *group) check(t *testing.T) {
	t.Helper()
	for node := range g.n {
		log := g.troop.Log(node)
		shared := min(len(log), len(g.longest))
		if !slices.Equal(log[:shared], g.longest[:shared]) {
			t.Fatalf("node %d's log is %s, another log was %s", node, shorts(log), shorts(g.longest))
		}
		if len(log) < g.sizes[node] {
			t.Fatalf("node %d's log has %d values, it had %d", node, len(log), g.sizes[node])
		}
		for _, value := range log[shared:] {
			if value != "" && !g.proposed[value] {
				t.Fatalf("node %d's log has %s: nobody proposed that", node, short(value))
			}
		}
		g.sizes[node] = len(log)
		if len(log) > len(g.longest) {
			g.longest = log
		}
	}
}

// Whatever is lost, doubled or late, and whoever crashes: of any two logs one is a beginning of the other one, and what a log has stays, but for a crash.
func TestOneLog(t *testing.T) {
	told, behind, crashes := 0, 0, 0
	for round := range 140 {
		g := newGroup(t, 1+round%mostNodes, lot(700+round))
		for now := range 3000 {
			g.happens(now)
			g.check(t)
		}
		told += len(g.longest)
		crashes += g.crashes
		for _, size := range g.sizes {
			if size < len(g.longest) {
				behind++
			}
		}
	}
	if told < 3000 || behind < 100 || crashes < 500 {
		t.Errorf("%d slots are told, %d logs are shorter than others, %d crashes: too few to tell", told, behind, crashes)
	}
}

// When nothing is lost any more, one leads, and what it proposes is in all logs that ask.
func TestCalmBehindLosses(t *testing.T) {
	for round := range 70 {
		g := newGroup(t, 1+round%mostNodes, lot(8000+round))
		for now := range 1500 {
			g.happens(now)
			g.check(t)
		}
		settle(g.troop)
		leader := round % g.n
		for range 3 { // others may have had a greater ballot
			g.troop.Lead(leader)
			settle(g.troop)
		}
		g.proposed["last"] = true
		wantPropose(t, g.troop, leader, "last", api.OK)
		settle(g.troop)
		log := g.troop.Log(leader)
		if len(log) == 0 || log[len(log)-1] != "last" {
			t.Fatalf("round %d: the leader's log is %s", round, shorts(log))
		}
		for node := range g.n {
			for range len(log)/mostTold + 1 {
				g.troop.Ask(node, leader)
				settle(g.troop)
			}
		}
		g.check(t)
		wantLogs(t, g.troop, g.n, log...)
	}
}

// If nothing is lost, what one that leads proposes is in all logs, within the notes that are counted: one that asks and one that answers for each node, then one for each node, and from each of them one for each node.
func TestCalm(t *testing.T) {
	for n := 1; n <= mostNodes; n++ {
		for me := range n {
			tr := newTroop(t, n)
			tr.Lead(me)
			if sum := settle(tr); sum != 2*n {
				t.Errorf("%d notes till node %d of %d leads, want %d", sum, me, n, 2*n)
			}
			var values []string
			for i := range 12 {
				values = append(values, fmt.Sprint("value ", i))
				wantPropose(t, tr, me, values[i], api.OK)
				if sum := settle(tr); sum != n+n*n {
					t.Errorf("%d notes till a value is told, want %d", sum, n+n*n)
				}
				wantLeads(t, tr, n, me)
				wantLogs(t, tr, n, values...)
			}
		}
	}
}

// Values may be proposed at once, and their notes may come in any order, and twice.
func TestCalmInAnyOrder(t *testing.T) {
	for round := range 70 {
		n := 1 + round%mostNodes
		l := lot(400 + round)
		tr := led(t, n, round%n)
		var values []string
		for i := range 10 {
			values = append(values, fmt.Sprint("value ", i))
			wantPropose(t, tr, round%n, values[i], api.OK)
		}
		for range tr.Waiting() / 2 {
			want(t, "Double", tr.Double(l.below(mostNotes)), true)
		}
		for sum := 0; sum < mostNotes && tr.Deliver(l.below(mostNotes)-mostNotes/2); sum++ {
		}
		wantWaiting(t, tr, 0)
		wantLogs(t, tr, n, values...)
	}
}

// Another one that leads takes over what the first one may have chosen, and fills its gaps.
func TestTakeOver(t *testing.T) {
	tr := led(t, 3, 0)
	for _, value := range []string{"lost", "kept", "lost, too"} {
		wantPropose(t, tr, 0, value, api.OK)
	}
	want(t, "Deliver", tr.Deliver(4), true) // of three values' notes to three nodes the second value's to node 1
	lose(tr, 0)                             // all others
	want(t, "Crash", tr.Crash(0), true)
	want(t, "Lead", tr.Lead(2), true)
	want(t, "Drop", tr.Drop(0), true) // that to node 0, which is down
	settle(tr)
	wantLeads(t, tr, 3, 2)
	wantPropose(t, tr, 2, "new", api.OK)
	settle(tr)
	wantLogs(t, tr, 3, "", "kept", "new")
}

// One that was the first to lead is not obeyed any more behind another one, and gives way when it hears of that.
func TestTwoThatLead(t *testing.T) {
	tr := led(t, 3, 0, "first")
	want(t, "Lead", tr.Lead(1), true)
	want(t, "Drop", tr.Drop(0), true)
	settle(tr)
	wantLeads(t, tr, 3, 0, 1)
	wantPropose(t, tr, 0, "of the old one", api.OK)
	want(t, "Drop", tr.Drop(0), true)
	settle(tr)
	wantLogs(t, tr, 3, "first")
	wantPropose(t, tr, 1, "of the new one", api.OK)
	settle(tr)
	wantLeads(t, tr, 3, 1)
	wantLogs(t, tr, 3, "first", "of the new one")
	wantPropose(t, tr, 0, "too late", api.ErrState)
}

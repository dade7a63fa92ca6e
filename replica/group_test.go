package replica_test

import (
	"fmt"
	"slices"
	"testing"

	"hurdle/api"
	"hurdle/replica"
)

// group is the nodes of one log, and the notes that are under way between them.
type group struct {
	lot      lot
	nodes    []*replica.Replica
	way      []api.Note
	proposed map[string]int
	chosen   map[int]string // each slot's value as the first log that had it told it
	crashes  int
}

func newGroup(t *testing.T, n int, seed lot) *group {
	g := &group{lot: seed, proposed: map[string]int{}, chosen: map[int]string{}}
	for i := range n {
		g.nodes = append(g.nodes, node(t, n, i))
	}
	return g
}

func (g *group) say(l []api.Note) { g.way = append(g.way, l...) }

// deliver lets the note at i be taken, and tells by whom.
func (g *group) deliver(i int) int {
	x := g.way[i]
	g.way = slices.Delete(g.way, i, i+1)
	g.say(g.nodes[x.To].Take(x))
	return x.To
}

// mostNotes is far more than all that may be said behind what one test does at once.
const mostNotes = 100000

// settle lets all notes be taken in their order, with all that is said then, and tells how many they were; if they have no end, what is left is lost.
func (g *group) settle() int {
	sum := 0
	for ; len(g.way) > 0 && sum < mostNotes; sum++ {
		g.deliver(0)
	}
	g.way = nil
	return sum
}

func (g *group) propose(i int, value string) bool {
	l, err := g.nodes[i].Propose(value)
	g.say(l)
	if err == api.OK {
		g.proposed[value]++
	}
	return err == api.OK
}

// move lets something happen, and tells to whom.
func (g *group) move(now, trims int) int {
	i := g.lot.below(len(g.nodes))
	switch g.lot.below(100) {
	case 0:
		g.say(g.nodes[i].Lead())
	case 1:
		g.say(g.nodes[i].Ask(g.lot.below(len(g.nodes))))
	case 2, 3, 4, 5, 6, 7:
		g.propose(i, fmt.Sprint("value ", now))
	case 8:
		if g.lot.below(6) == 0 {
			g.nodes[i].Crash()
			g.crashes++
		}
	case 9:
		if g.lot.below(4) < trims {
			g.nodes[i].Trim(g.nodes[i].Next() - g.lot.below(4))
		}
	default:
		return g.pass(i)
	}
	return i
}

// pass lets a note be taken, or be lost, or come again.
func (g *group) pass(i int) int {
	if len(g.way) == 0 {
		return i
	}
	at := g.lot.below(min(len(g.way), 20)) // late, but not for ever
	switch g.lot.below(20) {
	case 0:
		g.way = slices.Delete(g.way, at, at+1)
		return i
	case 1:
		g.say(g.way[at : at+1])
	}
	return g.deliver(at)
}

// check asks that node i's log agrees with all that any log had.
func (g *group) check(t *testing.T, i int) {
	t.Helper()
	log, next := g.nodes[i].Log(), g.nodes[i].Next()
	for at, value := range log {
		slot := next - len(log) + at
		was, is := g.chosen[slot]
		if is && was != value {
			t.Fatalf("node %d's slot %d is %s, another log had %s", i, slot, short(value), short(was))
		}
		if value != "" && g.proposed[value] == 0 {
			t.Fatalf("node %d's slot %d is %s: nobody proposed that", i, slot, short(value))
		}
		g.chosen[slot] = value
	}
}

// Of any two logs one is a beginning of the other one, whatever notes are lost, doubled or late, and whoever crashes; what a log has stays, but for a crash.
func TestOneLog(t *testing.T) {
	told, behind, crashes := 0, 0, 0
	for round := range 210 {
		g := newGroup(t, 1+round%mostNodes, lot(500+round))
		for now := range 3000 {
			crashed, nexts := g.crashes, g.nexts()
			i := g.move(now, round%3)
			g.check(t, i)
			if g.crashes == crashed && g.nodes[i].Next() < nexts[i] {
				t.Fatalf("round %d, step %d: node %d's next slot goes back", round, now, i)
			}
			if len(g.way) > 200 {
				g.way = g.way[150:] // lost
			}
		}
		told += len(g.chosen)
		crashes += g.crashes
		for _, next := range g.nexts() {
			if next < len(g.chosen) {
				behind++
			}
		}
	}
	if told < 5000 || behind < 100 || crashes < 500 {
		t.Errorf("%d slots are told, %d logs are shorter than others, %d crashes: too few to tell", told, behind, crashes)
	}
}

func (g *group) nexts() []int {
	var all []int
	for _, r := range g.nodes {
		all = append(all, r.Next())
	}
	return all
}

// Whatever was lost ahead: when nothing is lost any more, one leads, and all logs are the same.
func TestCalmBehindLosses(t *testing.T) {
	for round := range 70 {
		n := 1 + round%mostNodes
		g := newGroup(t, n, lot(9000+round))
		for now := range 2000 {
			g.check(t, g.move(now, 0))
		}
		g.settle()
		leader := round % n
		for range 3 { // others may have had a greater ballot
			g.say(g.nodes[leader].Lead())
			g.settle()
		}
		if !g.nodes[leader].Leads() {
			t.Fatalf("round %d: node %d doesn't lead", round, leader)
		}
		if !g.propose(leader, "last") {
			t.Fatalf("round %d: node %d can't propose", round, leader)
		}
		g.settle()
		g.catchUp(t, leader)
	}
}

// catchUp lets all nodes ask the leader for what they don't know.
func (g *group) catchUp(t *testing.T, leader int) {
	t.Helper()
	log := g.nodes[leader].Log()
	if len(log) == 0 || log[len(log)-1] != "last" {
		t.Fatalf("the leader's log is %s", shorts(log))
	}
	for i, r := range g.nodes {
		for range len(log)/mostTold + 1 {
			g.say(r.Ask(leader))
			g.settle()
		}
		g.check(t, i)
		if got := r.Log(); !slices.Equal(got, log) {
			t.Fatalf("node %d's log is %s, the leader's is %s", i, shorts(got), shorts(log))
		}
	}
}

// If nothing is lost, what one that leads proposes is in all logs, within the notes that are counted: one that asks and one that answers for each node, then one for each node, and from each of them one for each node.
func TestCalm(t *testing.T) {
	for n := 1; n <= mostNodes; n++ {
		for me := range n {
			g := newGroup(t, n, 0)
			g.say(g.nodes[me].Lead())
			if sum := g.settle(); sum != 2*n {
				t.Errorf("%d notes till node %d of %d leads, want %d", sum, me, n, 2*n)
			}
			var want []string
			for i := range 12 {
				want = append(want, fmt.Sprint("value ", i))
				g.propose(me, want[i])
				if sum := g.settle(); sum != n+n*n {
					t.Errorf("%d notes till a value is told, want %d", sum, n+n*n)
				}
				for node, r := range g.nodes {
					wantState(t, r, node == me, i+1, want...)
				}
			}
		}
	}
}

// Values may be proposed at once, and their notes may come in any order.
func TestCalmInAnyOrder(t *testing.T) {
	for round := range 70 {
		n := 1 + round%mostNodes
		g := newGroup(t, n, lot(700+round))
		g.say(g.nodes[0].Lead())
		g.settle()
		want := many(10)
		for _, value := range want {
			g.propose(0, value)
		}
		for sum := 0; len(g.way) > 0 && sum < mostNotes; sum++ {
			g.deliver(g.lot.below(len(g.way)))
		}
		for i, r := range g.nodes {
			wantState(t, r, i == 0, 10, want...)
		}
	}
}

// Another one that leads takes over what the first one may have chosen, and fills its gaps.
func TestTakeOver(t *testing.T) {
	g := newGroup(t, 3, 0)
	g.say(g.nodes[0].Lead())
	g.settle()
	for _, value := range []string{"lost", "kept", "lost, too"} {
		g.propose(0, value)
	}
	for _, x := range g.way {
		if x.To == 1 && x.Votes[0].Slot == 1 {
			g.nodes[1].Take(x) // all other notes are lost
		}
	}
	g.way = nil
	g.nodes[0].Crash()
	g.say(g.nodes[2].Lead())
	if lost := g.way[0]; lost.To == 0 {
		g.way = g.way[1:] // it is down
	}
	g.settle()
	if !g.propose(2, "new") {
		t.Fatal("node 2 doesn't lead")
	}
	g.settle()
	for i, r := range g.nodes {
		wantState(t, r, i == 2, 3, "", "kept", "new")
	}
}

// One leads just when as many nodes as a quorum are up.
func TestQuorumOfNodes(t *testing.T) {
	for n := 1; n <= mostNodes; n++ {
		for up := 1; up <= n; up++ {
			g := newGroup(t, n, 0)
			g.say(g.nodes[0].Lead())
			for sum := 0; len(g.way) > 0 && sum < mostNotes; sum++ {
				if g.way[0].To < up {
					g.deliver(0)
				} else {
					g.way = g.way[1:]
				}
			}
			wantState(t, g.nodes[0], 2*up > n, 0)
		}
	}
}

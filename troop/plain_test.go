package troop_test

import (
	"fmt"
	"slices"
	"strings"
	"testing"

	"hurdle/api"
	"hurdle/replica"
	"hurdle/troop"
)

// lot gives numbers of many values, the same ones each time.
type lot uint64

func (l *lot) below(n int) int {
	*l = *l*6364136223846793005 + 1442695040888963407
	return int(uint64(*l)>>33) % n
}

// plain is a troop with the chapter's words done one at a time.
type plain struct {
	nodes []*replica.Replica
	way   []api.Note
}

func newPlain(n int) *plain {
	p := &plain{}
	for me := range n {
		p.nodes = append(p.nodes, replica.New(n, me))
	}
	return p
}

func (p *plain) has(node int) bool { return node >= 0 && node < len(p.nodes) }

func (p *plain) say(l []api.Note) {
	p.way = append(p.way, l...)
	p.way = p.way[:min(len(p.way), mostWay)]
}

func (p *plain) at(i int) int {
	return (i%len(p.way) + len(p.way)) % len(p.way)
}

func (p *plain) lead(node int) bool {
	if !p.has(node) {
		return false
	}
	p.say(p.nodes[node].Lead())
	return true
}

func (p *plain) propose(node int, value string) api.Errno {
	if !p.has(node) {
		return api.ErrArg
	}
	l, err := p.nodes[node].Propose(value)
	p.say(l)
	return err
}

func (p *plain) ask(node, to int) bool {
	if !p.has(node) || !p.has(to) {
		return false
	}
	p.say(p.nodes[node].Ask(to))
	return true
}

func (p *plain) deliver(i int) bool {
	if len(p.way) == 0 {
		return false
	}
	x := p.way[p.at(i)]
	p.drop(i)
	p.say(p.nodes[x.To].Take(x))
	return true
}

func (p *plain) drop(i int) bool {
	if len(p.way) == 0 {
		return false
	}
	at := p.at(i)
	p.way = slices.Concat(p.way[:at], p.way[at+1:])
	return true
}

func (p *plain) double(i int) bool {
	if len(p.way) == 0 || len(p.way) == mostWay {
		return false
	}
	p.say([]api.Note{p.way[p.at(i)]})
	return true
}

func (p *plain) crash(node int) bool {
	if !p.has(node) {
		return false
	}
	p.nodes[node].Crash()
	return true
}

// someNode is one of n nodes, now and then one that is none.
func someNode(l *lot, n int) int {
	if l.below(20) == 0 {
		all := badNodes(n)
		return all[l.below(len(all))]
	}
	return l.below(n)
}

// doBoth does one thing to both, and tells what it was; as long as grow holds, more notes are said than go out.
func doBoth(t *testing.T, l *lot, tr *troop.Troop, p *plain, now int, grow bool) string {
	t.Helper()
	node, i := someNode(l, len(p.nodes)), l.below(4000)-2000
	same := func(what string, got, as bool) string {
		t.Helper()
		want(t, what, got, as)
		return fmt.Sprint(what, " ", as)
	}
	switch kind := l.below(100); {
	case kind < 1 && l.below(2) == 0:
		return same("crash", tr.Crash(node), p.crash(node))
	case kind < 2:
		return same("lead", tr.Lead(node), p.lead(node))
	case kind < 8:
		to := someNode(l, len(p.nodes))
		return same("ask", tr.Ask(node, to), p.ask(node, to))
	case kind < 25:
		value := fmt.Sprint("value ", now)
		if l.below(30) == 0 {
			value = strings.Repeat("v", mostBody+l.below(2))
		}
		err := p.propose(node, value)
		wantPropose(t, tr, node, value, err)
		return fmt.Sprint("propose ", err)
	case kind < 30 || grow && kind < 80:
		return same("double", tr.Double(i), p.double(i))
	case kind < 35:
		return same("drop", tr.Drop(i), p.drop(i))
	case kind < 85: // what was said long ago, so that something comes of it
		return same("deliver", tr.Deliver(0), p.deliver(0))
	}
	return same("deliver", tr.Deliver(i), p.deliver(i))
}

// wantAs asks that all that is told is as the plain one tells it.
func wantAs(t *testing.T, tr *troop.Troop, p *plain) {
	t.Helper()
	wantWaiting(t, tr, len(p.way))
	for node, r := range p.nodes {
		wantLog(t, tr, node, r.Log()...)
		want(t, "Leads", tr.Leads(node), r.Leads())
	}
}

func TestAsThePlainOne(t *testing.T) {
	count, full, long := map[string]int{}, 0, 0
	for round := range 42 {
		l := lot(2200 + round)
		n := 1 + round%mostNodes
		tr, p := newTroop(t, n), newPlain(n)
		for now := range 3000 {
			grow := round%3 == 0 && now < 2500
			count[doBoth(t, &l, tr, p, now, grow)]++
			if !grow && l.below(200) == 0 { // all is lost
				lose(tr, 0)
				p.way = nil
			}
			wantAs(t, tr, p)
			if len(p.way) == mostWay {
				full++
			}
			for _, r := range p.nodes {
				long = max(long, len(r.Log()))
			}
			if t.Failed() {
				t.Fatalf("round %d, step %d", round, now)
			}
		}
	}
	for _, what := range []string{"crash", "lead", "ask", "drop", "double", "deliver"} {
		for _, was := range []bool{true, false} {
			if sum := count[fmt.Sprint(what, " ", was)]; sum < 20 {
				t.Errorf("%s %v %d times: too seldom to tell", what, was, sum)
			}
		}
	}
	for _, err := range []api.Errno{api.OK, api.ErrArg, api.ErrSize, api.ErrState} {
		if sum := count[fmt.Sprint("propose ", err)]; sum < 20 {
			t.Errorf("propose tells %d %d times: too seldom to tell", err, sum)
		}
	}
	if full < 100 || long < 20 {
		t.Errorf("it was full %d times, and %d values were in a log: too little to tell", full, long)
	}
}

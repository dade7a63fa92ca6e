package net_test

import (
	"fmt"
	"math"
	"slices"
	"strings"
	"testing"
	"unsafe"

	"hurdle/api"
	"hurdle/frames"
	"hurdle/net"
)

const (
	mostNodes = 64
	mostWay   = 1024
)

// lot gives numbers of many values, the same ones each time.
type lot uint64

func (l *lot) below(n int) int {
	*l = *l*6364136223846793005 + 1442695040888963407
	return int(uint64(*l)>>33) % n
}

// message is one from node 0 to node 1 that its id tells apart.
func message(id int) api.Message {
	return api.Message{Kind: 1, To: 1, Id: id, Body: "a body"}
}

// brief tells m without all of a long body.
func brief(m api.Message) string {
	return fmt.Sprintf("{%d %d %d %d %.40q}", m.Kind, m.From, m.To, m.Id, m.Body)
}

// filled is a net of two nodes with the messages 0 to count - 1 under way.
func filled(t *testing.T, count int) *net.Net {
	t.Helper()
	n := net.New(2)
	for id := range count {
		want(t, "Send", n.Send(message(id)), true)
	}
	wantWaiting(t, n, count)
	return n
}

func want(t *testing.T, what string, got, want bool) {
	t.Helper()
	if got != want {
		t.Errorf("%s: %v, want %v", what, got, want)
	}
}

func wantWaiting(t *testing.T, n *net.Net, count int) {
	t.Helper()
	if got := n.Waiting(); got != count {
		t.Errorf("Waiting: %d, want %d", got, count)
	}
}

func wantArrives(t *testing.T, n *net.Net, i int, m api.Message) {
	t.Helper()
	got, ok := n.Deliver(i)
	if got != m || !ok {
		t.Errorf("Deliver(%d): %s and %v, want %s", i, brief(got), ok, brief(m))
	}
}

func wantNothing(t *testing.T, n *net.Net, i int) {
	t.Helper()
	got, ok := n.Deliver(i)
	if got != (api.Message{}) || ok {
		t.Errorf("Deliver(%d): %s and %v, want nothing", i, brief(got), ok)
	}
}

// wantIds asks for all that are under way, the first one first: they are ids, and none is left.
func wantIds(t *testing.T, n *net.Net, ids ...int) {
	t.Helper()
	wantWaiting(t, n, len(ids))
	var got []int
	for range ids {
		m, ok := n.Deliver(0)
		if !ok {
			m.Id = -1
		}
		got = append(got, m.Id)
	}
	if !slices.Equal(got, ids) {
		t.Errorf("under way: %v, want %v", got, ids)
	}
	wantWaiting(t, n, 0)
}

// The numbers of messages, of which there are three, that name the one at 0, 1, 2.
func namesOfThree() [3][]int {
	return [3][]int{
		{0, 3, -3, 300, -300, math.MinInt + 2},
		{1, 4, -2, 301, -299, math.MinInt, math.MaxInt},
		{2, 5, -1, 302, -298, math.MinInt + 1, math.MaxInt - 2},
	}
}

func TestNew(t *testing.T) {
	for _, c := range []struct{ n, nodes int }{
		{math.MinInt, 1}, {-64, 1}, {-1, 1}, {0, 1}, {1, 1}, {2, 2}, {3, 3}, {7, 7},
		{63, 63}, {64, 64}, {65, 64}, {128, 64}, {math.MaxInt, 64},
	} {
		n := net.New(c.n)
		wantWaiting(t, n, 0)
		wantNothing(t, n, 0)
		last := c.nodes - 1
		want(t, "Cut of the last node", n.Cut(last, 0, true), true)
		want(t, "Cut of none", n.Cut(c.nodes, 0, true), false)
		want(t, "Send to the last node", n.Send(api.Message{Kind: 1, To: last}), true)
		want(t, "Send from the last node", n.Send(api.Message{Kind: 1, From: last}), true)
		want(t, "Send to none", n.Send(api.Message{Kind: 1, To: c.nodes}), false)
		want(t, "Send from none", n.Send(api.Message{Kind: 1, From: c.nodes}), false)
		wantWaiting(t, n, 2)
	}
}

func TestSend(t *testing.T) {
	n := net.New(mostNodes)
	good := []api.Message{
		{Kind: 1},
		{Kind: 99, From: 63, To: 63, Id: 1<<31 - 1, Body: strings.Repeat("x", api.MaxBody)},
		{Kind: api.KindReply, From: 63, To: 0, Id: 5, Body: "\x00\xff"},
		{Kind: api.KindCall, From: 3, To: 63},
		{Kind: api.KindCall, From: 3, To: 63},
	}
	for i, m := range good {
		want(t, "Send", n.Send(m), true)
		wantWaiting(t, n, i+1)
	}
	for i, m := range good {
		wantArrives(t, n, 0, m)
		wantWaiting(t, n, len(good)-i-1)
	}
	wantNothing(t, n, 0)
}

func TestSendRefuses(t *testing.T) {
	for _, nodes := range []int{2, mostNodes} {
		n := net.New(nodes)
		for _, m := range []api.Message{
			{},
			{Kind: -1},
			{Kind: 100},
			{Kind: 257},
			{Kind: 1, From: -1},
			{Kind: 1, From: nodes},
			{Kind: 1, From: 64},
			{Kind: 1, From: 256},
			{Kind: 1, From: math.MinInt},
			{Kind: 1, From: math.MaxInt},
			{Kind: 1, To: -1},
			{Kind: 1, To: nodes},
			{Kind: 1, To: 64},
			{Kind: 1, To: 256},
			{Kind: 1, To: math.MinInt},
			{Kind: 1, To: math.MaxInt},
			{Kind: 1, Id: -1},
			{Kind: 1, Id: 1 << 31},
			{Kind: 1, Body: strings.Repeat("x", api.MaxBody+1)},
			{Kind: 1, Body: strings.Repeat("x", 1<<20)},
		} {
			if n.Send(m) {
				t.Errorf("of %d nodes, Send(%s): true", nodes, brief(m))
			}
			wantWaiting(t, n, 0)
		}
	}
}

func TestSendWhenFull(t *testing.T) {
	n := filled(t, mostWay-1)
	want(t, "Send of the last", n.Send(message(7)), true)
	want(t, "Send of one more", n.Send(message(8)), false)
	want(t, "Send of one that may not be", n.Send(api.Message{}), false)
	wantWaiting(t, n, mostWay)
	want(t, "Drop", n.Drop(0), true)
	want(t, "Send where one went", n.Send(message(9)), true)
	want(t, "Send of one more", n.Send(message(10)), false)
	wantArrives(t, n, -1, message(9))
	wantArrives(t, n, -1, message(7))
	wantArrives(t, n, 0, message(1))
}

func TestDeliver(t *testing.T) {
	for place, names := range namesOfThree() {
		for _, i := range names {
			n := filled(t, 3)
			wantArrives(t, n, i, message(place))
			left := slices.Delete([]int{0, 1, 2}, place, place+1)
			wantIds(t, n, left...)
			wantNothing(t, n, i)
		}
	}
}

func TestDeliverOfNone(t *testing.T) {
	n := net.New(2)
	for _, i := range []int{0, 1, -1, math.MinInt, math.MaxInt} {
		wantNothing(t, n, i)
		wantWaiting(t, n, 0)
	}
}

func TestDrop(t *testing.T) {
	for place, names := range namesOfThree() {
		for _, i := range names {
			n := filled(t, 3)
			want(t, "Drop", n.Drop(i), true)
			left := slices.Delete([]int{0, 1, 2}, place, place+1)
			wantIds(t, n, left...)
			want(t, "Drop of none", n.Drop(i), false)
			wantWaiting(t, n, 0)
		}
	}
}

func TestDouble(t *testing.T) {
	for place, names := range namesOfThree() {
		for _, i := range names {
			n := filled(t, 3)
			want(t, "Double", n.Double(i), true)
			wantIds(t, n, 0, 1, 2, place)
			want(t, "Double of none", n.Double(i), false)
			wantWaiting(t, n, 0)
		}
	}
}

func TestDoubleArrivesTwice(t *testing.T) {
	n := filled(t, 1)
	want(t, "Double", n.Double(0), true)
	wantArrives(t, n, 0, message(0))
	wantArrives(t, n, 0, message(0))
	wantNothing(t, n, 0)
}

func TestDoubleWhenFull(t *testing.T) {
	n := filled(t, mostWay-1)
	want(t, "Double up to the last", n.Double(5), true)
	want(t, "Double of one more", n.Double(5), false)
	want(t, "Send of one more", n.Send(message(0)), false)
	wantWaiting(t, n, mostWay)
	wantArrives(t, n, mostWay-1, message(5))
	wantArrives(t, n, 5, message(5))
	want(t, "Double where two went", n.Double(0), true)
	wantWaiting(t, n, mostWay-1)
}

// What is done to one of two that were one is not done to the other.
func TestDoubleIsApart(t *testing.T) {
	for place := range 2 {
		n := filled(t, 1)
		n.Double(0)
		want(t, "Spoil", n.Spoil(place, 2, 1), true)
		wantNothing(t, n, place)
		wantArrives(t, n, 0, message(0))
	}
}

func TestDoubleOfSpoilt(t *testing.T) {
	n := filled(t, 1)
	n.Spoil(0, 2, 1)
	n.Double(0)
	want(t, "Spoil back", n.Spoil(0, 2, 1), true)
	wantArrives(t, n, 0, message(0))
	wantNothing(t, n, 0)
	wantWaiting(t, n, 0)
}

func TestSpoil(t *testing.T) {
	for place, names := range namesOfThree() {
		for _, i := range names {
			n := filled(t, 3)
			want(t, "Spoil", n.Spoil(i, 0, 1), true)
			wantWaiting(t, n, 3)
			for id := range 3 {
				if id == place {
					wantNothing(t, n, 0)
				} else {
					wantArrives(t, n, 0, message(id))
				}
			}
			want(t, "Spoil of none", n.Spoil(i, 0, 1), false)
			wantWaiting(t, n, 0)
		}
	}
}

func TestSpoilAtEachByte(t *testing.T) {
	text, _ := frames.Encode(message(3))
	for at := range text {
		for _, by := range []int{1, 128, 255, -1, 257, math.MinInt + 1, math.MaxInt} {
			n := net.New(2)
			n.Send(message(3))
			want(t, "Spoil", n.Spoil(0, at, by), true)
			wantNothing(t, n, 0)
			wantWaiting(t, n, 0)
		}
	}
}

func TestSpoilByNothing(t *testing.T) {
	for _, by := range []int{0, 256, -256, 1 << 20, math.MinInt} {
		n := filled(t, 1)
		want(t, "Spoil", n.Spoil(0, 0, by), true)
		wantArrives(t, n, 0, message(0))
	}
}

// turn spoils what is under way alone, which m was, till its bytes are those of to; name tells by which number each byte is asked for, and what is added to what it is xored with.
func turn(t *testing.T, n *net.Net, m, to api.Message, name func(at, count int) (int, int)) {
	t.Helper()
	from, _ := frames.Encode(m)
	goal, _ := frames.Encode(to)
	if len(from) != len(goal) || from == "" {
		t.Fatal("bytes of unlike length can't be turned")
	}
	for at := range from {
		place, more := name(at, len(from))
		want(t, "Spoil", n.Spoil(0, place, int(from[at]^goal[at])+more), true)
	}
}

// A byte is the one at a number modulo how many there are, and by counts modulo 256.
func TestSpoilByModulo(t *testing.T) {
	m, to := message(3), api.Message{Kind: 7, From: 1, Id: 60, Body: "others"}
	for _, name := range []func(at, count int) (int, int){
		func(at, count int) (int, int) { return at, 0 },
		func(at, count int) (int, int) { return at + count, 256 },
		func(at, count int) (int, int) { return at - count, -256 },
		func(at, count int) (int, int) { return at + 1000*count, 1 << 40 },
		func(at, count int) (int, int) { return at - 1000*count, -1 << 40 },
		func(at, count int) (int, int) { return at + math.MaxInt/count*count - count, math.MaxInt - 511 },
		func(at, count int) (int, int) { return at + math.MinInt/count*count, math.MinInt },
	} {
		n := net.New(2)
		n.Send(m)
		turn(t, n, m, to, name)
		wantArrives(t, n, 0, to)
	}
}

// What is spoilt till it is another message arrives as that one, on the link as it was sent.
func TestLinkIsAsItWasSent(t *testing.T) {
	plainly := func(at, count int) (int, int) { return at, 0 }
	m, to := api.Message{Kind: 1, From: 0, To: 1}, api.Message{Kind: 1, From: 2, To: 3}

	n := net.New(4)
	n.Send(m)
	turn(t, n, m, to, plainly)
	n.Cut(2, 3, true)
	wantArrives(t, n, 0, to)

	n = net.New(4)
	n.Send(m)
	turn(t, n, m, to, plainly)
	n.Double(0)
	n.Cut(0, 1, true)
	wantNothing(t, n, 0)
	wantNothing(t, n, 0)
	wantWaiting(t, n, 0)

	n = net.New(2)
	n.Send(m)
	turn(t, n, m, to, plainly)
	wantArrives(t, n, 0, to)
}

// Each link of five nodes is cut alone, then whole again.
func TestCut(t *testing.T) {
	n := net.New(5)
	for a := range 5 {
		for b := range 5 {
			want(t, "Cut", n.Cut(a, b, true), true)
			wantLinks(t, n, a, b)
			want(t, "Cut", n.Cut(b, a, false), true)
			wantLinks(t, n, -1, -1)
		}
	}
}

// wantLinks asks each link of five nodes both ways: none but that of a and b is cut.
func wantLinks(t *testing.T, n *net.Net, a, b int) {
	t.Helper()
	for from := range 5 {
		for to := range 5 {
			m := api.Message{Kind: 1, From: from, To: to}
			want(t, "Send", n.Send(m), true)
			if from == a && to == b || from == b && to == a {
				wantNothing(t, n, 0)
			} else {
				wantArrives(t, n, 0, m)
			}
			wantWaiting(t, n, 0)
		}
	}
}

func TestCutAtTheLastNodes(t *testing.T) {
	n := net.New(mostNodes)
	n.Cut(62, 63, true)
	n.Send(api.Message{Kind: 1, From: 63, To: 62})
	n.Send(api.Message{Kind: 1, From: 63, To: 61})
	wantNothing(t, n, 0)
	wantArrives(t, n, 0, api.Message{Kind: 1, From: 63, To: 61})
}

// It counts whether the link is cut when a message is delivered, not when it is sent.
func TestCutWhileUnderWay(t *testing.T) {
	n := filled(t, 2)
	n.Cut(0, 1, true)
	wantNothing(t, n, 1)
	wantWaiting(t, n, 1)
	n.Cut(0, 1, false)
	wantArrives(t, n, 0, message(0))
	n.Cut(0, 1, true)
	want(t, "Send on a link that is cut", n.Send(message(5)), true)
	want(t, "Double on a link that is cut", n.Double(0), true)
	want(t, "Drop on a link that is cut", n.Drop(0), true)
	want(t, "Spoil on a link that is cut", n.Spoil(0, 0, 256), true)
	n.Cut(1, 0, false)
	wantArrives(t, n, 0, message(5))
}

func TestCutTwice(t *testing.T) {
	n := filled(t, 2)
	want(t, "whole already", n.Cut(0, 1, false), true)
	n.Cut(0, 1, true)
	want(t, "cut already", n.Cut(1, 0, true), true)
	wantNothing(t, n, 0)
	n.Cut(0, 1, false)
	wantArrives(t, n, 0, message(1))
}

func TestCutRefuses(t *testing.T) {
	n := filled(t, 1)
	for _, a := range []int{-1, -2, 2, 63, 64, math.MinInt, math.MaxInt} {
		for _, on := range []bool{true, false} {
			want(t, "Cut", n.Cut(a, 0, on), false)
			want(t, "Cut", n.Cut(1, a, on), false)
			want(t, "Cut", n.Cut(a, a, on), false)
		}
	}
	wantWaiting(t, n, 1)
	wantArrives(t, n, 0, message(0))
}

// A cut that is refused leaves what is cut as it is.
func TestCutRefusedChangesNothing(t *testing.T) {
	n := filled(t, 1)
	n.Cut(0, 1, true)
	n.Cut(0, 2, false)
	n.Cut(-1, 1, false)
	wantNothing(t, n, 0)
}

func TestNil(t *testing.T) {
	var n *net.Net
	want(t, "Send", n.Send(message(0)), false)
	want(t, "Drop", n.Drop(0), false)
	want(t, "Double", n.Double(0), false)
	want(t, "Spoil", n.Spoil(0, 0, 1), false)
	want(t, "Cut", n.Cut(0, 0, true), false)
	wantNothing(t, n, 0)
	wantWaiting(t, n, 0)
}

func TestNetsAreApart(t *testing.T) {
	a, b := filled(t, 1), net.New(2)
	a.Cut(0, 1, true)
	wantWaiting(t, b, 0)
	b.Send(message(1))
	wantArrives(t, b, 0, message(1))
	wantWaiting(t, a, 1)
}

func shares(a, b string) bool {
	from, to := uintptr(unsafe.Pointer(unsafe.StringData(a))), uintptr(unsafe.Pointer(unsafe.StringData(b)))
	return a != "" && b != "" && from < to+uintptr(len(b)) && to < from+uintptr(len(a))
}

func TestAnswersAreNewMemory(t *testing.T) {
	n := net.New(1)
	m := api.Message{Kind: 1, Body: strings.Clone("a body")}
	n.Send(m)
	n.Double(0)
	a, _ := n.Deliver(0)
	b, _ := n.Deliver(0)
	if a != m || b != m || shares(a.Body, m.Body) || shares(a.Body, b.Body) {
		t.Error("the bodies share memory")
	}
}

// plain is a net with the chapter's words done one at a time.
type plain struct {
	nodes int
	way   []sent
	cut   [mostNodes][mostNodes]bool
}

type sent struct {
	from, to int
	text     []byte
}

func (p *plain) at(i, count int) int { return (i%count + count) % count }

func (p *plain) send(m api.Message) bool {
	text, err := frames.Encode(m)
	if frames.Check(m) != api.OK || err != api.OK || m.From >= p.nodes || m.To >= p.nodes || len(p.way) == mostWay {
		return false
	}
	p.way = append(p.way, sent{m.From, m.To, []byte(text)})
	return true
}

func (p *plain) deliver(i int) (api.Message, bool) {
	if len(p.way) == 0 {
		return api.Message{}, false
	}
	s := p.way[p.at(i, len(p.way))]
	p.drop(i)
	m, err := frames.Decode(string(s.text))
	if err != api.OK || p.cut[s.from][s.to] {
		return api.Message{}, false
	}
	return m, true
}

func (p *plain) drop(i int) bool {
	if len(p.way) == 0 {
		return false
	}
	place := p.at(i, len(p.way))
	p.way = append(p.way[:place:place], p.way[place+1:]...)
	return true
}

func (p *plain) double(i int) bool {
	if len(p.way) == 0 || len(p.way) == mostWay {
		return false
	}
	s := p.way[p.at(i, len(p.way))]
	s.text = slices.Clone(s.text)
	p.way = append(p.way, s)
	return true
}

func (p *plain) spoil(i, at, by int) bool {
	if len(p.way) == 0 {
		return false
	}
	text := p.way[p.at(i, len(p.way))].text
	text[p.at(at, len(text))] ^= byte(by & 255)
	return true
}

func (p *plain) cutLink(a, b int, on bool) bool {
	if a < 0 || b < 0 || a >= p.nodes || b >= p.nodes {
		return false
	}
	p.cut[a][b], p.cut[b][a] = on, on
	return true
}

// step does one thing to both; more of them are sent than go out as long as grow holds.
func step(t *testing.T, l *lot, n *net.Net, p *plain, grow bool) {
	t.Helper()
	i := l.below(4000) - 2000
	kind := l.below(10)
	if grow && kind == 5 {
		kind = 0
	}
	switch kind {
	case 0, 1, 2:
		m := api.Message{Kind: 1 + l.below(100), From: l.below(p.nodes + 1), To: l.below(p.nodes+1) - l.below(2), Id: l.below(1 << 20), Body: strings.Repeat("b", l.below(30))}
		want(t, "Send", n.Send(m), p.send(m))
	case 3:
		want(t, "Double", n.Double(i), p.double(i))
	case 4, 5:
		got, ok := n.Deliver(i)
		m, arrives := p.deliver(i)
		if got != m || ok != arrives {
			t.Errorf("Deliver(%d): %v and %v, want %v and %v", i, got, ok, m, arrives)
		}
	case 6:
		want(t, "Drop", n.Drop(i), p.drop(i))
	case 7:
		// The same few bytes by the same bit, so that some are spoilt back.
		at, by := l.below(2)-40, 256*l.below(9)+1
		want(t, "Spoil", n.Spoil(i%3, at, by), p.spoil(i%3, at, by))
	default:
		a, b, on := l.below(p.nodes+2)-1, l.below(p.nodes+1), l.below(3) == 0
		want(t, "Cut", n.Cut(a, b, on), p.cutLink(a, b, on))
	}
	wantWaiting(t, n, len(p.way))
}

func TestAsThePlainOne(t *testing.T) {
	for round := range 12 {
		l := lot(130 + round)
		nodes := []int{1, 2, 5, mostNodes}[round%4]
		n, p := net.New(nodes), &plain{nodes: nodes}
		full := false
		for k := range 20000 {
			step(t, &l, n, p, k < 15000)
			full = full || len(p.way) == mostWay
			if t.Failed() {
				t.Fatalf("round %d, step %d", round, k)
			}
		}
		if !full && nodes == mostNodes {
			t.Errorf("round %d: it was never full: too little to tell", round)
		}
	}
}

package calls_test

import (
	"cmp"
	"fmt"
	"math"
	"slices"
	"strings"
	"testing"
	"unsafe"

	"hurdle/api"
	"hurdle/calls"
)

const (
	mostOpen   = 64
	mostBody   = 4096
	lastMoment = 1<<40 - 1000
)

// lot gives numbers of many values, the same ones each time.
type lot uint64

func (l *lot) below(n int) int {
	*l = *l*6364136223846793005 + 1442695040888963407
	return int(uint64(*l)>>33) % n
}

// brief tells m without all of a long body.
func brief(m api.Message) string {
	return fmt.Sprintf("{%d %d %d %d %.40q}", m.Kind, m.From, m.To, m.Id, m.Body)
}

// reply is the one of node from to node 2, which most tests call from.
func reply(from, id int, body string) api.Message {
	return api.Message{Kind: api.KindReply, From: from, To: 2, Id: id, Body: body}
}

func wantCall(t *testing.T, c *calls.Calls, to int, body string, now int, want int) {
	t.Helper()
	if id, err := c.Call(to, body, now); id != want || err != api.OK {
		t.Errorf("Call(%d, %.40q, %d): %d and %d, want %d and OK", to, body, now, id, err, want)
	}
}

func wantRefused(t *testing.T, c *calls.Calls, to int, body string, now int, want api.Errno) {
	t.Helper()
	if id, err := c.Call(to, body, now); id != 0 || err != want {
		t.Errorf("Call(%d, %.40q, %d): %d and %d, want 0 and %d", to, body, now, id, err, want)
	}
}

func wantMessages(t *testing.T, c *calls.Calls, now int, want ...api.Message) {
	t.Helper()
	if got := c.Due(now); !slices.Equal(got, want) {
		t.Errorf("Due(%d): %s, want %s", now, briefs(got), briefs(want))
	}
}

func briefs(l []api.Message) string {
	var texts []string
	for _, m := range l {
		texts = append(texts, brief(m))
	}
	return fmt.Sprint(texts)
}

// wantDue asks for the numbers of what is due alone.
func wantDue(t *testing.T, c *calls.Calls, now int, want ...int) {
	t.Helper()
	var got []int
	for _, m := range c.Due(now) {
		got = append(got, m.Id)
	}
	if !slices.Equal(got, want) {
		t.Errorf("Due(%d): %v, want %v", now, got, want)
	}
}

func wantAnswer(t *testing.T, c *calls.Calls, m api.Message, want bool) {
	t.Helper()
	if got := c.Answer(m); got != want {
		t.Errorf("Answer(%s): %v, want %v", brief(m), got, want)
	}
}

func wantState(t *testing.T, c *calls.Calls, id, want int, answer string) {
	t.Helper()
	if got, text := c.State(id); got != want || text != answer {
		t.Errorf("State(%d): %d and %.40q, want %d and %.40q", id, got, text, want, answer)
	}
}

func wantForget(t *testing.T, c *calls.Calls, id int, want bool) {
	t.Helper()
	if got := c.Forget(id); got != want {
		t.Errorf("Forget(%d): %v, want %v", id, got, want)
	}
}

func wantOpen(t *testing.T, c *calls.Calls, want ...int) {
	t.Helper()
	if got := c.Open(); !slices.Equal(got, want) {
		t.Errorf("Open: %v, want %v", got, want)
	}
}

// upTo is the row of numbers from first on, count of them.
func upTo(first, count int) []int {
	var l []int
	for i := range count {
		l = append(l, first+i)
	}
	return l
}

// made are node 2's calls from number 7 on, of which count are open, of node 3, due at 0.
func made(t *testing.T, count int) *calls.Calls {
	t.Helper()
	c := calls.New(2, 7)
	for i := range count {
		wantCall(t, c, 3, "a body", 0, 7+i)
	}
	wantOpen(t, c, upTo(7, count)...)
	return c
}

// giveUp asks for what is due till all calls that are due at from or ahead are given up, and answers when.
func giveUp(c *calls.Calls, from int) int {
	for range api.MaxTries {
		c.Due(from)
		from += 64
	}
	c.Due(from)
	return from
}

func TestExample(t *testing.T) {
	c := made(t, 1)
	var at []int
	for now := range 29 {
		if len(c.Due(now)) > 0 {
			at = append(at, now)
		}
	}
	if want := []int{0, 4, 12, 28}; !slices.Equal(at, want) {
		t.Errorf("sent at %v, want %v", at, want)
	}
}

// Asked at each tick, a call is sent eight times, then given up when it is due once more.
func TestDueAtEachTick(t *testing.T) {
	c := calls.New(2, 7)
	wantCall(t, c, 3, "a", 10, 7)
	var at []int
	for now := range 326 {
		l := c.Due(now)
		if len(l) > 0 {
			at = append(at, now)
		}
		for _, m := range l {
			if m != (api.Message{Kind: api.KindCall, From: 2, To: 3, Id: 7, Body: "a"}) {
				t.Errorf("sent at %d: %s", now, brief(m))
			}
		}
		wantState(t, c, 7, api.CallOpen, "")
		wantDue(t, c, now)
	}
	if want := []int{10, 14, 22, 38, 70, 134, 198, 262}; !slices.Equal(at, want) {
		t.Errorf("sent at %v, want %v", at, want)
	}
	wantOpen(t, c, 7)
	wantDue(t, c, 326)
	wantState(t, c, 7, api.CallGivenUp, "")
	wantOpen(t, c)
	for now := 327; now < 1000; now++ {
		wantDue(t, c, now)
	}
	wantState(t, c, 7, api.CallGivenUp, "")
}

// Who asks late: the wait counts from when it is sent, not from when it was due.
func TestDueLate(t *testing.T) {
	c := calls.New(2, 7)
	wantCall(t, c, 3, "a", 10, 7)
	now := 1000
	for _, wait := range []int{4, 8, 16, 32, 64, 64, 64, 64} {
		wantDue(t, c, now, 7)
		wantDue(t, c, now)
		wantDue(t, c, now+wait-1)
		now += wait + 5
	}
	wantState(t, c, 7, api.CallOpen, "")
	wantDue(t, c, now)
	wantState(t, c, 7, api.CallGivenUp, "")
}

// Moments may go back: the wait counts from the one that is told.
func TestDueWhereMomentsGoBack(t *testing.T) {
	c := calls.New(2, 7)
	wantCall(t, c, 3, "a", 100, 7)
	wantCall(t, c, 4, "b", 50, 8)
	wantDue(t, c, 49)
	wantDue(t, c, 200, 8, 7)
	wantDue(t, c, 203)
	wantCall(t, c, 5, "c", 0, 9)
	wantDue(t, c, 0, 9)
	wantDue(t, c, 3)
	wantDue(t, c, 4, 9)
	wantDue(t, c, 204, 9, 7, 8)
}

func TestDueAtTheEdges(t *testing.T) {
	c := calls.New(2, 7)
	wantCall(t, c, 3, "a", 0, 7)
	wantCall(t, c, 3, "b", lastMoment, 8)
	wantDue(t, c, 0, 7)
	wantDue(t, c, lastMoment-1, 7)
	wantDue(t, c, lastMoment, 8)
	wantDue(t, c, lastMoment)
	wantOpen(t, c, 7, 8)
	for range 20 {
		for _, now := range []int{lastMoment + 1, lastMoment + 64, 1 << 40, 1<<40 + 1, math.MaxInt, -1, math.MinInt} {
			wantDue(t, c, now)
		}
	}
	wantOpen(t, c, 7, 8)
	wantState(t, c, 7, api.CallOpen, "")
	wantDue(t, c, lastMoment-1)
}

// A moment that may not be changes nothing: what is due is due as ahead.
func TestDueRefusesMoments(t *testing.T) {
	c := made(t, 2)
	for range 20 {
		for _, now := range []int{math.MinInt, -1 << 40, -2, -1, lastMoment + 1, lastMoment + 1000, 1<<40 + 1, math.MaxInt} {
			wantDue(t, c, now)
		}
	}
	wantOpen(t, c, 7, 8)
	wantDue(t, c, 0, 7, 8)
	wantDue(t, c, -1)
	wantDue(t, c, 1<<40)
	wantDue(t, c, 3)
	wantDue(t, c, 4, 7, 8)
}

func TestDueOrder(t *testing.T) {
	c := calls.New(2, 0)
	for id, at := range []int{20, 10, 20, 0, 10, 30, 40} {
		wantCall(t, c, id, fmt.Sprint("body ", id), at, id)
	}
	of := func(id int) api.Message {
		return api.Message{Kind: api.KindCall, From: 2, To: id, Id: id, Body: fmt.Sprint("body ", id)}
	}
	wantMessages(t, c, 29, of(3), of(1), of(4), of(0), of(2))
	// All of them were sent at one moment, so that they are due at one: by their numbers, but behind what was due ahead.
	wantMessages(t, c, 33, of(5), of(0), of(1), of(2), of(3), of(4))
	wantMessages(t, c, 41, of(5), of(6), of(0), of(1), of(2), of(3), of(4))
}

// Some are given up where others are sent.
func TestDueGivesUpAmongOthers(t *testing.T) {
	c := made(t, 2)
	giveUp(c, 0)
	wantOpen(t, c)
	wantCall(t, c, 4, "", 600, 9)
	wantCall(t, c, 4, "", 601, 10)
	now := 600
	for range api.MaxTries {
		wantDue(t, c, now, 9)
		wantAnswer(t, c, reply(4, 10, "late"), now == 600)
		now += 64
	}
	wantCall(t, c, 5, "", now-1, 11)
	wantCall(t, c, 5, "", now, 12)
	wantDue(t, c, now, 11, 12)
	wantOpen(t, c, 11, 12)
	wantState(t, c, 7, api.CallGivenUp, "")
	wantState(t, c, 8, api.CallGivenUp, "")
	wantState(t, c, 9, api.CallGivenUp, "")
	wantState(t, c, 10, api.CallAnswered, "late")
	wantState(t, c, 11, api.CallOpen, "")
}

func TestNewMe(t *testing.T) {
	for _, c := range []struct{ me, node int }{
		{math.MinInt, 0}, {-64, 0}, {-1, 0}, {0, 0}, {1, 1}, {31, 31}, {62, 62}, {63, 63}, {64, 63}, {128, 63}, {math.MaxInt, 63},
	} {
		l := calls.New(c.me, 7)
		wantOpen(t, l)
		wantCall(t, l, 3, "a", 0, 7)
		wantMessages(t, l, 0, api.Message{Kind: api.KindCall, From: c.node, To: 3, Id: 7, Body: "a"})
		for _, to := range []int{c.node - 1, c.node + 1, -1, 64} {
			wantAnswer(t, l, api.Message{Kind: api.KindReply, From: 3, To: to, Id: 7}, false)
		}
		if c.me != c.node {
			wantAnswer(t, l, api.Message{Kind: api.KindReply, From: 3, To: c.me, Id: 7}, false)
		}
		wantAnswer(t, l, api.Message{Kind: api.KindReply, From: 3, To: c.node, Id: 7}, true)
	}
}

func TestNewFirst(t *testing.T) {
	for _, c := range []struct{ first, id int }{
		{math.MinInt, 0}, {-1 << 32, 0}, {-1, 0}, {0, 0}, {1, 1}, {1000, 1000},
		{1<<30 - 1, 1<<30 - 1}, {1 << 30, 1 << 30}, {1<<30 + 1, 1 << 30}, {1 << 31, 1 << 30}, {math.MaxInt, 1 << 30},
	} {
		l := calls.New(0, c.first)
		wantState(t, l, c.id, api.CallNone, "")
		wantCall(t, l, 0, "", 0, c.id)
		wantCall(t, l, 0, "", 0, c.id+1)
		wantOpen(t, l, c.id, c.id+1)
		wantDue(t, l, 0, c.id, c.id+1)
		wantState(t, l, c.id-1, api.CallNone, "")
		wantState(t, l, c.id+2, api.CallNone, "")
	}
}

func TestCallAtTheEdges(t *testing.T) {
	c := calls.New(2, 7)
	long := strings.Repeat("x", mostBody)
	sent := func(to, id int, body string) api.Message {
		return api.Message{Kind: api.KindCall, From: 2, To: to, Id: id, Body: body}
	}
	wantCall(t, c, 0, "", 0, 7)
	wantCall(t, c, 63, long, lastMoment, 8)
	wantCall(t, c, 2, "\x00\xff", lastMoment-1, 9)
	wantMessages(t, c, 0, sent(0, 7, ""))
	wantMessages(t, c, lastMoment, sent(0, 7, ""), sent(2, 9, "\x00\xff"), sent(63, 8, long))
	wantAnswer(t, c, reply(63, 8, ""), true)
	wantAnswer(t, c, reply(2, 9, ""), true)
	wantAnswer(t, c, reply(0, 7, ""), true)
}

func TestCallRefuses(t *testing.T) {
	c := made(t, 1)
	long := strings.Repeat("x", mostBody+1)
	for _, to := range []int{math.MinInt, -64, -1, 64, 65, 256, math.MaxInt} {
		wantRefused(t, c, to, "a", 0, api.ErrArg)
		wantRefused(t, c, to, long, 0, api.ErrArg)
		wantRefused(t, c, to, "a", -1, api.ErrArg)
	}
	for _, now := range []int{math.MinInt, -1 << 40, -1, lastMoment + 1, 1 << 40, 1<<40 + 1, math.MaxInt} {
		wantRefused(t, c, 3, "a", now, api.ErrArg)
		wantRefused(t, c, 3, long, now, api.ErrArg)
	}
	for _, body := range []string{long, strings.Repeat("x", 1<<16), strings.Repeat("x", 1<<20)} {
		wantRefused(t, c, 0, body, 0, api.ErrSize)
		wantRefused(t, c, 63, body, lastMoment, api.ErrSize)
	}
	wantOpen(t, c, 7)
	wantState(t, c, 8, api.CallNone, "")
	wantState(t, c, 0, api.CallNone, "")
	// What is refused takes no number.
	wantCall(t, c, 3, "b", 0, 8)
	wantDue(t, c, 0, 7, 8)
}

func TestCallWhenFull(t *testing.T) {
	c := made(t, mostOpen)
	for range 3 {
		wantRefused(t, c, 3, "", 0, api.ErrFull)
		wantRefused(t, c, 63, strings.Repeat("x", mostBody), lastMoment, api.ErrFull)
	}
	wantRefused(t, c, 64, "", 0, api.ErrArg)
	wantRefused(t, c, 3, "", lastMoment+1, api.ErrArg)
	wantRefused(t, c, 3, strings.Repeat("x", mostBody+1), 0, api.ErrSize)
	wantOpen(t, c, upTo(7, mostOpen)...)
	wantDue(t, c, 0, upTo(7, mostOpen)...)
	wantRefused(t, c, 3, "", 0, api.ErrFull)
	wantForget(t, c, 9, false)
	wantRefused(t, c, 3, "", 0, api.ErrFull)
	wantAnswer(t, c, reply(3, 9, "b"), true)
	wantCall(t, c, 3, "", 2, 7+mostOpen)
	wantRefused(t, c, 3, "", 0, api.ErrFull)
	wantDue(t, c, 3, 7+mostOpen)
	wantDue(t, c, 4, slices.Delete(upTo(7, mostOpen), 2, 3)...)
	wantOpen(t, c, append([]int{7, 8}, upTo(10, mostOpen-2)...)...)
}

// Those that are not open take no room, forgotten or not, however many there are.
func TestCallBehindManyThatEnded(t *testing.T) {
	c := calls.New(2, 0)
	for id := range 1000 {
		wantCall(t, c, id%64, "", 0, id)
		wantAnswer(t, c, reply(id%64, id, fmt.Sprint(id)), true)
	}
	for id := range mostOpen {
		wantCall(t, c, 0, "", 0, 1000+id)
	}
	wantRefused(t, c, 0, "", 0, api.ErrFull)
	giveUp(c, 0)
	wantOpen(t, c)
	for id := range mostOpen {
		wantCall(t, c, 0, "", 0, 1000+mostOpen+id)
		wantState(t, c, 1000+id, api.CallGivenUp, "")
	}
	wantRefused(t, c, 0, "", 0, api.ErrFull)
	for id := range 1000 {
		wantState(t, c, id, api.CallAnswered, fmt.Sprint(id))
	}
}

func TestAnswer(t *testing.T) {
	c := made(t, 3)
	wantDue(t, c, 0, 7, 8, 9)
	wantAnswer(t, c, reply(3, 8, "b"), true)
	wantState(t, c, 8, api.CallAnswered, "b")
	wantOpen(t, c, 7, 9)
	wantDue(t, c, 4, 7, 9)
	// The first answer stays.
	wantAnswer(t, c, reply(3, 8, "another"), false)
	wantState(t, c, 8, api.CallAnswered, "b")
	wantState(t, c, 7, api.CallOpen, "")
	wantAnswer(t, c, reply(3, 7, ""), true)
	wantState(t, c, 7, api.CallAnswered, "")
	wantAnswer(t, c, reply(3, 9, strings.Repeat("x", 1<<17)), true)
	wantState(t, c, 9, api.CallAnswered, strings.Repeat("x", 1<<17))
	wantOpen(t, c)
	for _, now := range []int{12, 100, lastMoment} {
		wantDue(t, c, now)
	}
	wantState(t, c, 8, api.CallAnswered, "b")
}

// A call that was not sent yet is open: it may be answered.
func TestAnswerAheadOfSending(t *testing.T) {
	c := calls.New(2, 7)
	wantCall(t, c, 3, "a", 100, 7)
	wantAnswer(t, c, reply(3, 7, "b"), true)
	wantState(t, c, 7, api.CallAnswered, "b")
	wantDue(t, c, 100)
	wantOpen(t, c)
}

func TestAnswerRefuses(t *testing.T) {
	c := calls.New(2, 7)
	wantCall(t, c, 3, "a", 0, 7)
	wantCall(t, c, 4, "b", 0, 8)
	for _, m := range []api.Message{
		{},
		{Kind: api.KindCall, From: 3, To: 2, Id: 7, Body: "x"},
		{Kind: api.KindCall, From: 2, To: 3, Id: 7, Body: "a"},
		{Kind: api.KindReply, From: 2, To: 3, Id: 7, Body: "x"},
		{Kind: 0, From: 3, To: 2, Id: 7},
		{Kind: 3, From: 3, To: 2, Id: 7},
		{Kind: -2, From: 3, To: 2, Id: 7},
		{Kind: 2 + 256, From: 3, To: 2, Id: 7},
		{Kind: math.MaxInt, From: 3, To: 2, Id: 7},
		{Kind: api.KindReply, From: 4, To: 2, Id: 7, Body: "x"},
		{Kind: api.KindReply, From: 2, To: 2, Id: 7, Body: "x"},
		{Kind: api.KindReply, From: -3, To: 2, Id: 7},
		{Kind: api.KindReply, From: 3 + 64, To: 2, Id: 7},
		{Kind: api.KindReply, From: math.MinInt, To: 2, Id: 7},
		{Kind: api.KindReply, From: 3, To: 3, Id: 7, Body: "x"},
		{Kind: api.KindReply, From: 3, To: 0, Id: 7},
		{Kind: api.KindReply, From: 3, To: -2, Id: 7},
		{Kind: api.KindReply, From: 3, To: 2 + 64, Id: 7},
		{Kind: api.KindReply, From: 3, To: math.MaxInt, Id: 7},
		{Kind: api.KindReply, From: 3, To: 2, Id: 8, Body: "x"},
		{Kind: api.KindReply, From: 4, To: 2, Id: 9, Body: "x"},
		{Kind: api.KindReply, From: 3, To: 2, Id: 6},
		{Kind: api.KindReply, From: 3, To: 2, Id: 0},
		{Kind: api.KindReply, From: 3, To: 2, Id: -7},
		{Kind: api.KindReply, From: 3, To: 2, Id: 7 + 1<<32},
		{Kind: api.KindReply, From: 3, To: 2, Id: math.MinInt},
		{Kind: api.KindReply, From: 3, To: 2, Id: math.MaxInt},
	} {
		wantAnswer(t, c, m, false)
		wantState(t, c, 7, api.CallOpen, "")
		wantState(t, c, 8, api.CallOpen, "")
		wantState(t, c, m.Id+1<<40, api.CallNone, "")
	}
	wantOpen(t, c, 7, 8)
	wantDue(t, c, 0, 7, 8)
	wantAnswer(t, c, reply(4, 8, "y"), true)
	wantAnswer(t, c, reply(3, 7, "x"), true)
}

// Nobody waits any more for one that was given up or is forgotten.
func TestAnswerOfOneThatIsNotOpen(t *testing.T) {
	c := made(t, 2)
	wantAnswer(t, c, reply(3, 8, "b"), true)
	giveUp(c, 0)
	wantAnswer(t, c, reply(3, 7, "late"), false)
	wantState(t, c, 7, api.CallGivenUp, "")
	wantForget(t, c, 7, true)
	wantForget(t, c, 8, true)
	wantAnswer(t, c, reply(3, 7, "late"), false)
	wantAnswer(t, c, reply(3, 8, "late"), false)
	wantState(t, c, 7, api.CallNone, "")
	wantState(t, c, 8, api.CallNone, "")
}

// An answer comes in time till the call is given up, not only till it was sent for the last time.
func TestAnswerBehindTheLastTry(t *testing.T) {
	c := made(t, 1)
	now := 0
	for range api.MaxTries {
		wantDue(t, c, now, 7)
		now += 64
	}
	wantDue(t, c, now-1)
	wantAnswer(t, c, reply(3, 7, "b"), true)
	wantDue(t, c, now)
	wantState(t, c, 7, api.CallAnswered, "b")
}

func TestStateOfNone(t *testing.T) {
	c := made(t, 1)
	for _, id := range []int{math.MinInt, -7, -1, 0, 6, 8, 7 + 1<<32, math.MaxInt} {
		wantState(t, c, id, api.CallNone, "")
	}
	wantState(t, c, 7, api.CallOpen, "")
}

func TestForget(t *testing.T) {
	c := made(t, 4)
	wantAnswer(t, c, reply(3, 9, "b"), true)
	wantForget(t, c, 7, false)
	wantState(t, c, 7, api.CallOpen, "")
	wantDue(t, c, 0, 7, 8, 10)
	wantForget(t, c, 7, false)
	wantOpen(t, c, 7, 8, 10)
	wantAnswer(t, c, reply(3, 8, "c"), true)
	for _, id := range []int{math.MinInt, -1, 0, 6, 11, math.MaxInt} {
		wantForget(t, c, id, false)
	}
	wantForget(t, c, 9, true)
	wantForget(t, c, 9, false)
	wantState(t, c, 9, api.CallNone, "")
	wantState(t, c, 8, api.CallAnswered, "c")
	giveUp(c, 4)
	wantState(t, c, 10, api.CallGivenUp, "")
	wantForget(t, c, 10, true)
	wantForget(t, c, 10, false)
	wantState(t, c, 10, api.CallNone, "")
	wantState(t, c, 7, api.CallGivenUp, "")
	// A number that is forgotten is not given again.
	wantCall(t, c, 3, "", 0, 11)
}

func TestOpenIsRising(t *testing.T) {
	c := calls.New(2, 5)
	for i, now := range []int{50, 10, 40, 20, 30} {
		wantCall(t, c, 3, "", now, 5+i)
	}
	wantOpen(t, c, 5, 6, 7, 8, 9)
	wantDue(t, c, 60, 6, 8, 9, 7, 5)
	wantOpen(t, c, 5, 6, 7, 8, 9)
	wantAnswer(t, c, reply(3, 7, ""), true)
	wantAnswer(t, c, reply(3, 5, ""), true)
	wantOpen(t, c, 6, 8, 9)
	wantCall(t, c, 3, "", 0, 10)
	wantAnswer(t, c, reply(3, 9, ""), true)
	wantOpen(t, c, 6, 8, 10)
}

func TestNil(t *testing.T) {
	var c *calls.Calls
	wantRefused(t, c, 3, "a", 0, api.ErrArg)
	wantRefused(t, c, -1, strings.Repeat("x", mostBody+1), -1, api.ErrArg)
	wantRefused(t, c, 3, strings.Repeat("x", mostBody+1), 0, api.ErrArg)
	wantDue(t, c, 0)
	wantAnswer(t, c, api.Message{Kind: api.KindReply}, false)
	wantState(t, c, 0, api.CallNone, "")
	wantForget(t, c, 0, false)
	wantOpen(t, c)
}

func TestCallsAreApart(t *testing.T) {
	a, b := made(t, 2), calls.New(2, 7)
	wantOpen(t, b)
	wantDue(t, b, 0)
	wantCall(t, b, 3, "other", 0, 7)
	wantAnswer(t, b, reply(3, 7, "b"), true)
	wantState(t, a, 7, api.CallOpen, "")
	wantDue(t, a, 0, 7, 8)
}

// Texts that are equal do not tell whether they share memory; where they stand does.
func shares(a, b string) bool {
	from, to := uintptr(unsafe.Pointer(unsafe.StringData(a))), uintptr(unsafe.Pointer(unsafe.StringData(b)))
	return a != "" && b != "" && from < to+uintptr(len(b)) && to < from+uintptr(len(a))
}

func TestAnswersAreNewMemory(t *testing.T) {
	c := calls.New(2, 7)
	body, answer := strings.Clone("a body"), strings.Clone("an answer")
	wantCall(t, c, 3, body, 0, 7)
	first, second := c.Due(0), c.Due(4)
	if shares(first[0].Body, body) || shares(first[0].Body, second[0].Body) {
		t.Error("the bodies share memory")
	}
	first[0] = api.Message{}
	wantDue(t, c, 12, 7)
	if second[0].Id != 7 {
		t.Error("an answer changed later")
	}
	open := c.Open()
	open[0] = 99
	wantOpen(t, c, 7)
	wantAnswer(t, c, reply(3, 7, answer), true)
	_, one := c.State(7)
	_, two := c.State(7)
	if one != answer || shares(one, answer) || shares(one, two) {
		t.Error("the answers share memory")
	}
}

// plain is a node's calls with the chapter's words done one at a time.
type plain struct {
	me, next int
	all      map[int]*plainCall
}

type plainCall struct {
	id, to, at, sent, state int
	body, answer            string
}

func (p *plain) open() []int {
	var ids []int
	for id, k := range p.all {
		if k.state == api.CallOpen {
			ids = append(ids, id)
		}
	}
	slices.Sort(ids)
	return ids
}

func (p *plain) call(to int, body string, now int) (int, api.Errno) {
	if to < 0 || to > 63 || now < 0 || now > lastMoment {
		return 0, api.ErrArg
	}
	if len(body) > mostBody {
		return 0, api.ErrSize
	}
	if len(p.open()) == mostOpen {
		return 0, api.ErrFull
	}
	id := p.next
	p.next++
	p.all[id] = &plainCall{id: id, to: to, at: now, state: api.CallOpen, body: body}
	return id, api.OK
}

func (p *plain) due(now int) []api.Message {
	var out []api.Message
	if now < 0 || now > lastMoment {
		return out
	}
	var l []*plainCall
	for _, id := range p.open() {
		if p.all[id].at <= now {
			l = append(l, p.all[id])
		}
	}
	slices.SortFunc(l, func(a, b *plainCall) int { return cmp.Or(cmp.Compare(a.at, b.at), cmp.Compare(a.id, b.id)) })
	for _, k := range l {
		if k.sent == 8 {
			k.state = api.CallGivenUp
			continue
		}
		k.sent++
		k.at = now + []int{4, 8, 16, 32, 64, 64, 64, 64}[k.sent-1]
		out = append(out, api.Message{Kind: api.KindCall, From: p.me, To: k.to, Id: k.id, Body: k.body})
	}
	return out
}

func (p *plain) answer(m api.Message) bool {
	k := p.all[m.Id]
	if m.Kind != api.KindReply || m.To != p.me || k == nil || k.state != api.CallOpen || m.From != k.to {
		return false
	}
	k.state, k.answer = api.CallAnswered, m.Body
	return true
}

func (p *plain) state(id int) (int, string) {
	if k := p.all[id]; k != nil {
		return k.state, k.answer
	}
	return api.CallNone, ""
}

func (p *plain) forget(id int) bool {
	k := p.all[id]
	if k == nil || k.state == api.CallOpen {
		return false
	}
	delete(p.all, id)
	return true
}

// step does one thing to both at about the moment now; of ten, busy are calls.
func step(t *testing.T, l *lot, c *calls.Calls, p *plain, now, busy int) {
	t.Helper()
	id := p.next - 1 - l.below(90)
	switch kind := l.below(14); {
	case kind < busy:
		to, body, at := l.below(5)-l.below(2), strings.Repeat("b", l.below(20)), now+l.below(30)-5
		if l.below(50) == 0 {
			body = strings.Repeat("b", mostBody+l.below(2))
		}
		want, err := p.call(to, body, at)
		if err == api.OK {
			wantCall(t, c, to, body, at, want)
		} else {
			wantRefused(t, c, to, body, at, err)
		}
	case kind < 11:
		at := now - l.below(20)*l.below(2)
		wantMessages(t, c, at, p.due(at)...)
	case kind < 13:
		m := api.Message{Kind: 2 - l.below(8)/7, From: l.below(5), To: p.me + l.below(8)/7, Id: id, Body: fmt.Sprint(now)}
		wantAnswer(t, c, m, p.answer(m))
	default:
		wantForget(t, c, id, p.forget(id))
	}
	state, answer := p.state(id)
	wantState(t, c, id, state, answer)
	wantOpen(t, c, p.open()...)
}

func TestAgainstPlain(t *testing.T) {
	full, givenUp := 0, 0
	for round := range 24 {
		l := lot(140 + round)
		c, p := calls.New(round, 100*round), &plain{me: round, next: 100 * round, all: map[int]*plainCall{}}
		now := 0
		for k := range 2000 {
			now += l.below(1 + round)
			step(t, &l, c, p, now, []int{2, 5, 9}[round%3])
			if t.Failed() {
				t.Fatalf("round %d, step %d", round, k)
			}
			if len(p.open()) == mostOpen {
				full++
			}
		}
		for _, k := range p.all {
			if k.state == api.CallGivenUp {
				givenUp++
			}
		}
	}
	if full < 100 || givenUp < 100 {
		t.Errorf("full at %d steps, %d given up: too little to tell", full, givenUp)
	}
}

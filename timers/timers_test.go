package timers_test

import (
	"cmp"
	"maps"
	"math"
	"slices"
	"testing"

	"hurdle/api"
	"hurdle/timers"
)

// lot gives numbers of many values, the same ones each time.
type lot uint64

func (l *lot) below(n int) int {
	*l = *l*6364136223846793005 + 1442695040888963407
	return int(uint64(*l)>>33) % n
}

// plain is when each id is due, with the chapter's words done one at a time.
type plain map[int]int

func (p plain) set(id, at int) api.Errno {
	if id < 0 || at < 0 || at > api.MaxTick {
		return api.ErrArg
	}
	others := maps.Clone(p)
	delete(others, id)
	if len(others) >= api.MaxOpen {
		return api.ErrFull
	}
	p[id] = at
	return api.OK
}

func (p plain) stop(id int) bool {
	_, was := p[id]
	delete(p, id)
	return was
}

func (p plain) due(now int) []int {
	var ids []int
	for _, d := range p.all() {
		if d.At <= now {
			ids = append(ids, d.Id)
			delete(p, d.Id)
		}
	}
	return ids
}

func (p plain) all() []api.Timer {
	var l []api.Timer
	for id, at := range p {
		l = append(l, api.Timer{Id: id, At: at})
	}
	slices.SortFunc(l, func(a, b api.Timer) int { return cmp.Or(cmp.Compare(a.At, b.At), cmp.Compare(a.Id, b.Id)) })
	return l
}

// made is where the pairs (id, at) were set in their order.
func made(t *testing.T, pairs ...int) *timers.Timers {
	t.Helper()
	m := timers.New()
	for i := 0; i < len(pairs); i += 2 {
		wantSet(t, m, pairs[i], pairs[i+1], api.OK)
	}
	return m
}

// full is where the ids 0 to MaxOpen - 1 are due at 100.
func full(t *testing.T) *timers.Timers {
	t.Helper()
	m := timers.New()
	for id := range api.MaxOpen {
		wantSet(t, m, id, 100, api.OK)
	}
	return m
}

func wantSet(t *testing.T, m *timers.Timers, id, at int, want api.Errno) {
	t.Helper()
	if got := m.Set(id, at); got != want {
		t.Errorf("Set(%d, %d): %d, not %d", id, at, got, want)
	}
}

func wantStop(t *testing.T, m *timers.Timers, id int, want bool) {
	t.Helper()
	if got := m.Stop(id); got != want {
		t.Errorf("Stop(%d): %v, not %v", id, got, want)
	}
}

func wantDue(t *testing.T, m *timers.Timers, now int, want ...int) {
	t.Helper()
	if got := m.Due(now); !slices.Equal(got, want) {
		t.Errorf("Due(%d): %v, not %v", now, got, want)
	}
}

// wantAll holds All, Len and Next against the pairs (id, at).
func wantAll(t *testing.T, m *timers.Timers, pairs ...int) {
	t.Helper()
	var l []api.Timer
	for i := 0; i < len(pairs); i += 2 {
		l = append(l, api.Timer{Id: pairs[i], At: pairs[i+1]})
	}
	wantList(t, m, l)
}

func wantList(t *testing.T, m *timers.Timers, l []api.Timer) {
	t.Helper()
	if got := m.All(); !slices.Equal(got, l) {
		t.Errorf("all are %v, not %v", got, l)
	}
	if got := m.Len(); got != len(l) {
		t.Errorf("%d are set, not %d", got, len(l))
	}
	var first api.Timer
	if len(l) > 0 {
		first = l[0]
	}
	if got, ok := m.Next(); got != first || ok != (len(l) > 0) {
		t.Errorf("the first is %v and %v, not %v of %d", got, ok, first, len(l))
	}
}

func TestExample(t *testing.T) {
	m := made(t, 1, 5, 2, 5, 0, 9)
	wantDue(t, m, 5, 1, 2)
	wantAll(t, m, 0, 9)
}

func TestNewHasNothing(t *testing.T) {
	m := timers.New()
	if m == nil {
		t.Fatal("nothing is there")
	}
	wantAll(t, m)
	wantDue(t, m, math.MaxInt)
	wantStop(t, m, 0, false)
}

func TestNewAreApart(t *testing.T) {
	a, b := made(t, 1, 5), timers.New()
	wantAll(t, b)
	wantSet(t, b, 2, 7, api.OK)
	wantAll(t, a, 1, 5)
}

func TestSetEdges(t *testing.T) {
	for _, id := range []int{0, 1, api.MaxOpen, 1 << 32, math.MaxInt} {
		for _, at := range []int{0, 1, 1 << 32, api.MaxTick - 1, api.MaxTick} {
			wantAll(t, made(t, id, at), id, at)
		}
	}
}

func TestSetWrong(t *testing.T) {
	m := made(t, 0, 4, 3, 6)
	for _, id := range []int{math.MinInt, -1 << 32, -2, -1} {
		for _, at := range []int{math.MinInt, -1, 0, 5, api.MaxTick, api.MaxTick + 1, math.MaxInt} {
			wantSet(t, m, id, at, api.ErrArg)
		}
	}
	for _, id := range []int{0, 1, 3, math.MaxInt} {
		for _, at := range []int{math.MinInt, -1 << 40, -1, api.MaxTick + 1, 1 << 41, math.MaxInt} {
			wantSet(t, m, id, at, api.ErrArg)
		}
	}
	wantAll(t, m, 0, 4, 3, 6)
}

func TestSetAgainMoves(t *testing.T) {
	m := made(t, 1, 5, 2, 6, 3, 7)
	wantSet(t, m, 1, 9, api.OK)
	wantAll(t, m, 2, 6, 3, 7, 1, 9)
	wantSet(t, m, 3, 0, api.OK)
	wantAll(t, m, 3, 0, 2, 6, 1, 9)
	wantSet(t, m, 2, 6, api.OK)
	wantAll(t, m, 3, 0, 2, 6, 1, 9)
	wantDue(t, m, 5, 3)
	wantDue(t, m, 8, 2)
	wantDue(t, m, 9, 1)
}

func TestSetFull(t *testing.T) {
	m := full(t)
	before := m.All()
	wantSet(t, m, api.MaxOpen, 100, api.ErrFull)
	wantSet(t, m, math.MaxInt, 0, api.ErrFull)
	wantList(t, m, before)
	// What was wrong in itself is told ahead of what is full.
	wantSet(t, m, -1, 0, api.ErrArg)
	wantSet(t, m, api.MaxOpen, -1, api.ErrArg)
	wantSet(t, m, api.MaxOpen, api.MaxTick+1, api.ErrArg)
	wantList(t, m, before)
}

func TestSetFullMovesItsOwn(t *testing.T) {
	m := full(t)
	wantSet(t, m, 7, 3, api.OK)
	wantDue(t, m, 3, 7)
	if m.Len() != api.MaxOpen-1 {
		t.Errorf("%d are set", m.Len())
	}
	wantSet(t, m, api.MaxOpen, 5, api.OK)
	wantSet(t, m, 7, 3, api.ErrFull)
	wantStop(t, m, api.MaxOpen, true)
	wantSet(t, m, 7, 3, api.OK)
	wantSet(t, m, api.MaxOpen, 5, api.ErrFull)
	wantDue(t, m, 50, 7)
}

func TestStop(t *testing.T) {
	m := made(t, 4, 5, 2, 6, 3, 6)
	for _, id := range []int{math.MinInt, -1, 0, 1, 5, 6, math.MaxInt} {
		wantStop(t, m, id, false)
	}
	wantAll(t, m, 4, 5, 2, 6, 3, 6)
	wantStop(t, m, 2, true)
	wantStop(t, m, 2, false)
	wantAll(t, m, 4, 5, 3, 6)
	wantStop(t, m, 4, true)
	wantStop(t, m, 3, true)
	wantAll(t, m)
	wantSet(t, m, 2, 8, api.OK)
	wantAll(t, m, 2, 8)
	wantDue(t, m, 7)
	wantDue(t, m, 8, 2)
	wantStop(t, m, 2, false)
}

func TestDueEdges(t *testing.T) {
	m := made(t, 0, 0, 9, 1, 8, api.MaxTick)
	for _, now := range []int{math.MinInt, -1 << 40, -1} {
		wantDue(t, m, now)
	}
	wantAll(t, m, 0, 0, 9, 1, 8, api.MaxTick)
	wantDue(t, m, 0, 0)
	wantDue(t, m, 0)
	wantDue(t, m, api.MaxTick-1, 9)
	wantDue(t, m, api.MaxTick, 8)
	wantAll(t, m)
	wantSet(t, m, 8, api.MaxTick, api.OK)
	wantDue(t, m, math.MaxInt, 8)
	wantAll(t, m)
}

func TestDueByMomentThenId(t *testing.T) {
	m := made(t, 5, 20, 6, 10, 1, 20, 9, 0, 2, 10, math.MaxInt, 20, 0, 30)
	wantAll(t, m, 9, 0, 2, 10, 6, 10, 1, 20, 5, 20, math.MaxInt, 20, 0, 30)
	wantDue(t, m, 29, 9, 2, 6, 1, 5, math.MaxInt)
	wantAll(t, m, 0, 30)
}

func TestDueAllOfMany(t *testing.T) {
	m := full(t)
	ids := m.Due(100)
	if len(ids) != api.MaxOpen {
		t.Fatalf("%d were due", len(ids))
	}
	for i, id := range ids {
		if id != i {
			t.Errorf("%d stands at %d", id, i)
		}
	}
	wantAll(t, m)
	wantSet(t, m, api.MaxOpen, 1, api.OK)
}

func TestNextTakesNothing(t *testing.T) {
	m := made(t, 3, 8, 2, 8, 4, 9)
	for range 3 {
		if d, ok := m.Next(); !ok || d != (api.Timer{Id: 2, At: 8}) {
			t.Errorf("the first is %v and %v", d, ok)
		}
	}
	wantAll(t, m, 2, 8, 3, 8, 4, 9)
}

func TestAnswersAreNewMemory(t *testing.T) {
	m := made(t, 1, 5, 2, 6, 3, 7)
	a, b := m.All(), m.All()
	a[0] = api.Timer{Id: 9, At: 99}
	_ = append(a[:1], api.Timer{Id: 8, At: 88})
	if b[0] != (api.Timer{Id: 1, At: 5}) || b[1] != (api.Timer{Id: 2, At: 6}) {
		t.Errorf("two answers share memory: %v", b)
	}
	wantAll(t, m, 1, 5, 2, 6, 3, 7)
	ids := m.Due(6)
	ids[0] = 77
	wantAll(t, m, 3, 7)
	wantSet(t, m, 4, 1, api.OK)
	if b[2] != (api.Timer{Id: 3, At: 7}) || ids[0] != 77 || ids[1] != 2 {
		t.Errorf("an answer changed later: %v %v", b, ids)
	}
}

func TestNil(t *testing.T) {
	var m *timers.Timers
	wantSet(t, m, 0, 0, api.ErrArg)
	wantSet(t, m, -1, math.MaxInt, api.ErrArg)
	wantStop(t, m, 0, false)
	wantDue(t, m, math.MaxInt)
	wantAll(t, m)
}

func TestAgainstPlain(t *testing.T) {
	var l lot = 7
	for round := range 300 {
		m, p := timers.New(), plain{}
		ids, moments := 3+l.below(100), 1+l.below(60)
		for range 200 {
			id, at := l.below(ids)-1, l.below(moments)-1
			switch l.below(8) {
			case 0:
				wantStop(t, m, id, p.stop(id))
			case 1:
				wantDue(t, m, at/4, p.due(at/4)...)
			default:
				wantSet(t, m, id, at, p.set(id, at))
			}
			wantList(t, m, p.all())
		}
		if t.Failed() {
			t.Fatalf("in round %d", round)
		}
	}
}

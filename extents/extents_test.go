package extents_test

import (
	"math"
	"slices"
	"testing"

	"hurdle/api"
	"hurdle/extents"
)

const (
	most    = api.MaxFile
	maxFrom = 1 << 30
)

// wild are numbers at which sums could wrap.
var wild = []int{math.MinInt, math.MinInt + 1, -math.MaxInt + most, -1 << 32, -maxFrom, -most - 1, -most, -2, -1, most, most + 1, maxFrom, 1 << 32, math.MaxInt - most, math.MaxInt - 1, math.MaxInt}

// lot gives numbers of many values, the same ones each time.
type lot uint64

func (l *lot) below(n int) int {
	*l = *l*6364136223846793005 + 1442695040888963407
	return int(uint64(*l)>>33) % n
}

// spot is where one byte stands.
type spot struct {
	there    bool
	id, from int
}

// plain is a file as a row of bytes, with the chapter's words done one byte at a time.
type plain [most]spot

// among tells whether i is one of the n numbers from at on.
func among(i, at, n int) bool {
	return n > 0 && i >= at && (at < 0 && i-n < at || at >= 0 && i-at < n)
}

func (p *plain) put(e api.Extent) api.Errno {
	if e.At < 0 || e.Len < 1 || e.At > most || e.Len > most || e.At+e.Len > most || e.Id < 0 || e.From < 0 || e.From > maxFrom {
		return api.ErrArg
	}
	for i := range e.Len {
		p[e.At+i] = spot{true, e.Id, e.From + i}
	}
	return api.OK
}

func (p *plain) cut(at int) {
	for i := range p {
		if i >= at {
			p[i] = spot{}
		}
	}
}

func (p *plain) hole(at, n int) {
	for i := range p {
		if among(i, at, n) {
			p[i] = spot{}
		}
	}
}

func (p *plain) look(at, n int) []api.Extent {
	var l []api.Extent
	for i, s := range p {
		if !s.there || !among(i, at, n) {
			continue
		}
		if k := len(l) - 1; k >= 0 && l[k].At+l[k].Len == i && l[k].Id == s.id && l[k].From+l[k].Len == s.from {
			l[k].Len++
		} else {
			l = append(l, api.Extent{At: i, Len: 1, Id: s.id, From: s.from})
		}
	}
	return l
}

func (p *plain) end() int {
	end := 0
	for i, s := range p {
		if s.there {
			end = i + 1
		}
	}
	return end
}

func (p *plain) uses(id int) int {
	count := 0
	for _, s := range p {
		if s.there && s.id == id {
			count++
		}
	}
	return count
}

func (p *plain) move(id, from, n, to int) int {
	count := 0
	for i, s := range p {
		if to >= 0 && s.there && s.id == id && among(s.from, from, n) {
			p[i].id = to
			count++
		}
	}
	return count
}

// made is a file with these pieces put, one behind the other.
func made(t *testing.T, l ...api.Extent) *extents.Extents {
	t.Helper()
	x := extents.New()
	for _, e := range l {
		if err := x.Put(e); err != api.OK {
			t.Fatalf("Put(%v) = %d", e, err)
		}
	}
	return x
}

// want asks that x has just these pieces.
func want(t *testing.T, x *extents.Extents, l ...api.Extent) {
	t.Helper()
	if got := x.All(); !slices.Equal(got, l) {
		t.Errorf("All() = %v, want %v", got, l)
	}
	end, uses := 0, map[int]int{}
	for _, e := range l {
		end, uses[e.Id] = e.At+e.Len, uses[e.Id]+e.Len
	}
	if got := x.End(); got != end {
		t.Errorf("End() = %d, want %d", got, end)
	}
	for id, n := range uses {
		if got := x.Uses(id); got != n {
			t.Errorf("Uses(%d) = %d, want %d", id, got, n)
		}
	}
}

func TestNewIsEmpty(t *testing.T) {
	x := extents.New()
	if x == nil {
		t.Fatal("New() = nil")
	}
	want(t, x)
	if l := x.Look(0, most); len(l) != 0 {
		t.Errorf("Look = %v", l)
	}
	for _, id := range append([]int{0, 1}, wild...) {
		if n := x.Uses(id); n != 0 {
			t.Errorf("Uses(%d) = %d", id, n)
		}
		if n := x.Move(id, 0, most, 1); n != 0 {
			t.Errorf("Move(%d, ..) = %d", id, n)
		}
	}
	x.Cut(0)
	x.Hole(0, most)
	want(t, x)
}

func TestFilesAreApart(t *testing.T) {
	x, y := extents.New(), extents.New()
	x.Put(api.Extent{Len: 3, Id: 1})
	want(t, y)
	y.Put(api.Extent{At: 1, Len: 1, Id: 2})
	want(t, x, api.Extent{Len: 3, Id: 1})
}

func TestPutInTheMiddle(t *testing.T) {
	x := made(t, api.Extent{Len: 10, Id: 1}, api.Extent{At: 4, Len: 2, Id: 2})
	want(t, x,
		api.Extent{Len: 4, Id: 1},
		api.Extent{At: 4, Len: 2, Id: 2},
		api.Extent{At: 6, Len: 4, Id: 1, From: 6})
}

func TestPutOverOthers(t *testing.T) {
	old := []api.Extent{{At: 2, Len: 3, Id: 1, From: 10}, {At: 5, Len: 3, Id: 2, From: 20}, {At: 9, Len: 3, Id: 3, From: 30}}
	cases := []struct {
		put  api.Extent
		want []api.Extent
	}{
		{api.Extent{At: 0, Len: 2, Id: 7}, []api.Extent{{At: 0, Len: 2, Id: 7}, old[0], old[1], old[2]}},
		{api.Extent{At: 0, Len: 3, Id: 7}, []api.Extent{{At: 0, Len: 3, Id: 7}, {At: 3, Len: 2, Id: 1, From: 11}, old[1], old[2]}},
		{api.Extent{At: 4, Len: 2, Id: 7}, []api.Extent{{At: 2, Len: 2, Id: 1, From: 10}, {At: 4, Len: 2, Id: 7}, {At: 6, Len: 2, Id: 2, From: 21}, old[2]}},
		{api.Extent{At: 5, Len: 3, Id: 7}, []api.Extent{old[0], {At: 5, Len: 3, Id: 7}, old[2]}},
		{api.Extent{At: 8, Len: 1, Id: 7}, []api.Extent{old[0], old[1], {At: 8, Len: 1, Id: 7}, old[2]}},
		{api.Extent{At: 3, Len: 8, Id: 7}, []api.Extent{{At: 2, Len: 1, Id: 1, From: 10}, {At: 3, Len: 8, Id: 7}, {At: 11, Len: 1, Id: 3, From: 32}}},
		{api.Extent{At: 12, Len: 1, Id: 7}, []api.Extent{old[0], old[1], old[2], {At: 12, Len: 1, Id: 7}}},
		{api.Extent{At: 0, Len: most, Id: 7}, []api.Extent{{At: 0, Len: most, Id: 7}}},
		{old[1], old},
	}
	for _, c := range cases {
		x := made(t, old...)
		if err := x.Put(c.put); err != api.OK {
			t.Errorf("Put(%v) = %d", c.put, err)
		}
		want(t, x, c.want...)
	}
}

func TestPiecesAreAsLongAsMayBe(t *testing.T) {
	first := api.Extent{At: 3, Len: 2, Id: 1, From: 8}
	cases := []struct {
		put  api.Extent
		want []api.Extent
	}{
		{api.Extent{At: 5, Len: 2, Id: 1, From: 10}, []api.Extent{{At: 3, Len: 4, Id: 1, From: 8}}},
		{api.Extent{At: 1, Len: 2, Id: 1, From: 6}, []api.Extent{{At: 1, Len: 4, Id: 1, From: 6}}},
		{api.Extent{At: 4, Len: 3, Id: 1, From: 9}, []api.Extent{{At: 3, Len: 4, Id: 1, From: 8}}},
		{api.Extent{At: 2, Len: 8, Id: 1, From: 7}, []api.Extent{{At: 2, Len: 8, Id: 1, From: 7}}},
		{api.Extent{At: 5, Len: 2, Id: 2, From: 10}, []api.Extent{first, {At: 5, Len: 2, Id: 2, From: 10}}},
		{api.Extent{At: 5, Len: 2, Id: 1, From: 11}, []api.Extent{first, {At: 5, Len: 2, Id: 1, From: 11}}},
		{api.Extent{At: 5, Len: 2, Id: 1, From: 9}, []api.Extent{first, {At: 5, Len: 2, Id: 1, From: 9}}},
		{api.Extent{At: 6, Len: 2, Id: 1, From: 10}, []api.Extent{first, {At: 6, Len: 2, Id: 1, From: 10}}},
		{api.Extent{At: 6, Len: 2, Id: 1, From: 11}, []api.Extent{first, {At: 6, Len: 2, Id: 1, From: 11}}},
	}
	for _, c := range cases {
		x := made(t, first, c.put)
		want(t, x, c.want...)
	}
	x := made(t, first, api.Extent{At: 6, Len: 2, Id: 1, From: 11}, api.Extent{At: 5, Len: 1, Id: 1, From: 10})
	want(t, x, api.Extent{At: 3, Len: 5, Id: 1, From: 8})
}

func TestPutRefuses(t *testing.T) {
	good := api.Extent{At: 5, Len: 6, Id: 7, From: 8}
	var bad []api.Extent
	with := func(change func(e *api.Extent)) {
		e := good
		change(&e)
		bad = append(bad, e)
	}
	for _, n := range wild {
		with(func(e *api.Extent) { e.Len = n })
		with(func(e *api.Extent) { e.At, e.Len = n, n })
		with(func(e *api.Extent) { e.At, e.Len = n, most-n })
		if n < 0 || n >= most {
			with(func(e *api.Extent) { e.At = n })
		}
		if n < 0 {
			with(func(e *api.Extent) { e.Id = n })
		}
		if n < 0 || n > maxFrom {
			with(func(e *api.Extent) { e.From = n })
		}
		with(func(e *api.Extent) { *e = api.Extent{At: n, Len: n, Id: n, From: n} })
	}
	with(func(e *api.Extent) { e.Len = 0 })
	with(func(e *api.Extent) { e.From = maxFrom + 1 })
	with(func(e *api.Extent) { e.Len = most - 4 })
	with(func(e *api.Extent) { e.At, e.Len = most, 0 })
	with(func(e *api.Extent) { e.At, e.Len = -1, 2 })
	with(func(e *api.Extent) { e.At, e.Len = 0, most+1 })
	with(func(e *api.Extent) { *e = api.Extent{} })
	x := made(t, good)
	for _, e := range bad {
		if e.At >= 0 && e.Len >= 1 && e.Len <= most && e.At <= most-e.Len && e.Id >= 0 && e.From >= 0 && e.From <= maxFrom {
			continue
		}
		if err := x.Put(e); err != api.ErrArg {
			t.Errorf("Put(%v) = %d", e, err)
		}
		want(t, x, good)
	}
}

func TestPutAtTheLimits(t *testing.T) {
	for _, e := range []api.Extent{
		{At: 0, Len: most},
		{At: most - 1, Len: 1},
		{At: 0, Len: 1, Id: math.MaxInt, From: maxFrom},
		{At: 0, Len: most, Id: math.MaxInt, From: maxFrom},
		{At: 1, Len: most - 1, Id: 0, From: 0},
	} {
		x := made(t, e)
		want(t, x, e)
		if n := x.Move(e.Id, e.From, e.Len, 9); n != e.Len {
			t.Errorf("Move of %v = %d", e, n)
		}
		want(t, x, api.Extent{At: e.At, Len: e.Len, Id: 9, From: e.From})
	}
}

func TestCut(t *testing.T) {
	old := []api.Extent{{At: 1, Len: 4, Id: 1}, {At: 7, Len: 2, Id: 2, From: 5}, {At: most - 1, Len: 1, Id: 3}}
	cases := []struct {
		at   int
		want []api.Extent
	}{
		{math.MinInt, nil}, {-most - 1, nil}, {-most, nil}, {-3, nil}, {0, nil}, {1, nil},
		{2, []api.Extent{{At: 1, Len: 1, Id: 1}}},
		{4, []api.Extent{{At: 1, Len: 3, Id: 1}}},
		{5, old[:1]}, {6, old[:1]}, {7, old[:1]},
		{8, []api.Extent{old[0], {At: 7, Len: 1, Id: 2, From: 5}}},
		{9, old[:2]}, {most - 1, old[:2]},
		{most, old}, {most + 1, old}, {math.MaxInt - 1, old}, {math.MaxInt, old},
	}
	for _, c := range cases {
		x := made(t, old...)
		x.Cut(c.at)
		want(t, x, c.want...)
	}
}

func TestHole(t *testing.T) {
	old := []api.Extent{{At: 1, Len: 4, Id: 1, From: 3}, {At: 5, Len: 2, Id: 2}, {At: most - 2, Len: 2, Id: 3}}
	cases := []struct {
		at, n int
		want  []api.Extent
	}{
		{2, 1, []api.Extent{{At: 1, Len: 1, Id: 1, From: 3}, {At: 3, Len: 2, Id: 1, From: 5}, old[1], old[2]}},
		{1, 4, old[1:]},
		{0, 5, old[1:]},
		{3, 3, []api.Extent{{At: 1, Len: 2, Id: 1, From: 3}, {At: 6, Len: 1, Id: 2, From: 1}, old[2]}},
		{2, 0, old}, {2, -1, old}, {5, 0, old}, {2, math.MinInt, old}, {math.MinInt, math.MinInt, old}, {math.MaxInt, math.MinInt, old},
		{0, 1, old}, {7, most - 9, old}, {most, 1, old}, {most + 1, math.MaxInt, old}, {math.MaxInt, math.MaxInt, old},
		{-3, 3, old}, {-3, 4, old}, {-3, 5, []api.Extent{{At: 2, Len: 3, Id: 1, From: 4}, old[1], old[2]}},
		{most - 1, 1, []api.Extent{old[0], old[1], {At: most - 2, Len: 1, Id: 3}}},
		{most - 1, math.MaxInt, []api.Extent{old[0], old[1], {At: most - 2, Len: 1, Id: 3}}},
		{2, math.MaxInt, []api.Extent{{At: 1, Len: 1, Id: 1, From: 3}}},
		{0, most, nil}, {0, math.MaxInt, nil}, {-1, math.MaxInt, nil}, {-math.MaxInt + most, math.MaxInt, nil},
		{-math.MaxInt + 2, math.MaxInt, []api.Extent{{At: 2, Len: 3, Id: 1, From: 4}, old[1], old[2]}},
		{-math.MaxInt, math.MaxInt, old}, {math.MinInt, math.MaxInt, old},
	}
	for _, c := range cases {
		x := made(t, old...)
		x.Hole(c.at, c.n)
		want(t, x, c.want...)
	}
}

func TestLook(t *testing.T) {
	old := []api.Extent{{At: 1, Len: 4, Id: 1, From: 3}, {At: 5, Len: 2, Id: 2}, {At: most - 2, Len: 2, Id: 3}}
	x := made(t, old...)
	cases := []struct {
		at, n int
		want  []api.Extent
	}{
		{0, 1, nil}, {0, 2, []api.Extent{{At: 1, Len: 1, Id: 1, From: 3}}},
		{2, 2, []api.Extent{{At: 2, Len: 2, Id: 1, From: 4}}},
		{3, 3, []api.Extent{{At: 3, Len: 2, Id: 1, From: 5}, {At: 5, Len: 1, Id: 2}}},
		{6, 9, []api.Extent{{At: 6, Len: 1, Id: 2, From: 1}}},
		{7, most - 9, nil}, {2, 0, nil}, {5, 0, nil}, {2, -1, nil}, {2, math.MinInt, nil}, {math.MinInt, math.MinInt, nil},
		{1, 6, old[:2]}, {7, most - 7, old[2:]},
		{most - 1, 1, []api.Extent{{At: most - 1, Len: 1, Id: 3, From: 1}}},
		{most - 1, math.MaxInt, []api.Extent{{At: most - 1, Len: 1, Id: 3, From: 1}}},
		{most, math.MaxInt, nil}, {math.MaxInt, math.MaxInt, nil},
		{-1, 2, nil}, {-1, 3, []api.Extent{{At: 1, Len: 1, Id: 1, From: 3}}}, {-1, math.MaxInt, old}, {0, math.MaxInt, old},
		{-math.MaxInt + 3, math.MaxInt, []api.Extent{{At: 1, Len: 2, Id: 1, From: 3}}},
		{math.MinInt, math.MaxInt, nil},
	}
	for _, c := range cases {
		if got := x.Look(c.at, c.n); !slices.Equal(got, c.want) {
			t.Errorf("Look(%d, %d) = %v, want %v", c.at, c.n, got, c.want)
		}
		want(t, x, old...)
	}
}

func TestEndAndUses(t *testing.T) {
	x := made(t, api.Extent{At: 2, Len: 3}, api.Extent{At: 9, Len: 1, Id: 5}, api.Extent{At: 20, Len: 4, From: 40})
	if x.End() != 24 || x.Uses(0) != 7 || x.Uses(5) != 1 || x.Uses(1) != 0 || x.Uses(-1) != 0 || x.Uses(math.MinInt) != 0 {
		t.Errorf("End %d, Uses %d %d %d %d", x.End(), x.Uses(0), x.Uses(5), x.Uses(1), x.Uses(-1))
	}
	x.Hole(20, 4)
	if x.End() != 10 || x.Uses(0) != 3 {
		t.Errorf("End %d, Uses %d", x.End(), x.Uses(0))
	}
	x.Hole(0, 10)
	if x.End() != 0 || x.Uses(0) != 0 || x.Uses(5) != 0 {
		t.Errorf("End %d, Uses %d %d", x.End(), x.Uses(0), x.Uses(5))
	}
	x.Put(api.Extent{At: most - 1, Len: 1})
	if x.End() != most {
		t.Errorf("End %d", x.End())
	}
}

func TestMove(t *testing.T) {
	old := []api.Extent{{At: 0, Len: 4, Id: 1, From: 10}, {At: 4, Len: 2, Id: 2, From: 14}, {At: 8, Len: 4, Id: 1, From: 12}}
	cases := []struct {
		id, from, n, to, count int
		want                   []api.Extent
	}{
		{1, 11, 2, 3, 3, []api.Extent{{At: 0, Len: 1, Id: 1, From: 10}, {At: 1, Len: 2, Id: 3, From: 11}, {At: 3, Len: 1, Id: 1, From: 13}, old[1], {At: 8, Len: 1, Id: 3, From: 12}, {At: 9, Len: 3, Id: 1, From: 13}}},
		{1, 10, 2, 3, 2, []api.Extent{{At: 0, Len: 2, Id: 3, From: 10}, {At: 2, Len: 2, Id: 1, From: 12}, old[1], old[2]}},
		{1, 15, 9, 3, 1, []api.Extent{old[0], old[1], {At: 8, Len: 3, Id: 1, From: 12}, {At: 11, Len: 1, Id: 3, From: 15}}},
		{1, 10, 4, 2, 6, []api.Extent{{At: 0, Len: 6, Id: 2, From: 10}, {At: 8, Len: 2, Id: 2, From: 12}, {At: 10, Len: 2, Id: 1, From: 14}}},
		{2, 14, 2, 1, 2, []api.Extent{{At: 0, Len: 6, Id: 1, From: 10}, old[2]}},
		{1, 0, maxFrom, 1, 8, old},
		{1, 10, 6, 0, 8, []api.Extent{{At: 0, Len: 4, Id: 0, From: 10}, old[1], {At: 8, Len: 4, Id: 0, From: 12}}},
		{1, -5, 16, 3, 1, []api.Extent{{At: 0, Len: 1, Id: 3, From: 10}, {At: 1, Len: 3, Id: 1, From: 11}, old[1], old[2]}},
		{1, -5, 15, 3, 0, old}, {1, 16, 9, 3, 0, old}, {1, 0, 10, 3, 0, old}, {3, 0, maxFrom, 1, 0, old},
		{1, 10, 4, -1, 0, old}, {1, 10, 4, math.MinInt, 0, old}, {1, 10, 0, 3, 0, old}, {1, 11, 0, 3, 0, old}, {1, 10, -1, 3, 0, old}, {1, 11, math.MinInt, 3, 0, old},
		{-1, 10, 4, 3, 0, old}, {math.MinInt, math.MinInt, math.MinInt, math.MinInt, 0, old},
		{1, math.MaxInt, math.MaxInt, 3, 0, old}, {1, math.MinInt, math.MaxInt, 3, 0, old}, {1, math.MinInt, 1, 3, 0, old}, {1, math.MaxInt, math.MinInt, 3, 0, old},
		{1, -math.MaxInt + 11, math.MaxInt, 3, 1, []api.Extent{{At: 0, Len: 1, Id: 3, From: 10}, {At: 1, Len: 3, Id: 1, From: 11}, old[1], old[2]}},
		{1, 14, math.MaxInt, math.MaxInt, 2, []api.Extent{old[0], old[1], {At: 8, Len: 2, Id: 1, From: 12}, {At: 10, Len: 2, Id: math.MaxInt, From: 14}}},
	}
	for _, c := range cases {
		x := made(t, old...)
		if got := x.Move(c.id, c.from, c.n, c.to); got != c.count {
			t.Errorf("Move(%d, %d, %d, %d) = %d, want %d", c.id, c.from, c.n, c.to, got, c.count)
		}
		want(t, x, c.want...)
	}
}

func TestMoveAtTheLastPlaces(t *testing.T) {
	last := maxFrom + most - 1
	x := made(t, api.Extent{Len: most, Id: 1, From: maxFrom})
	if n := x.Move(1, last, 1, 2); n != 1 {
		t.Errorf("the last place: %d", n)
	}
	if n := x.Move(1, last, math.MaxInt, 3); n != 0 {
		t.Errorf("what was moved: %d", n)
	}
	if n := x.Move(1, maxFrom+1, math.MaxInt, 3); n != most-2 {
		t.Errorf("the rest: %d", n)
	}
	want(t, x,
		api.Extent{At: 0, Len: 1, Id: 1, From: maxFrom},
		api.Extent{At: 1, Len: most - 2, Id: 3, From: maxFrom + 1},
		api.Extent{At: most - 1, Len: 1, Id: 2, From: last})
}

func TestMoveOfAllPlaces(t *testing.T) {
	for _, from := range []int{0, -1, -most} {
		x := made(t, api.Extent{At: 5, Len: 3, Id: 1}, api.Extent{At: 20, Len: 1, Id: 1, From: 2})
		if n := x.Move(1, from, math.MaxInt, 2); n != 4 {
			t.Errorf("Move from %d on = %d", from, n)
		}
		want(t, x, api.Extent{At: 5, Len: 3, Id: 2}, api.Extent{At: 20, Len: 1, Id: 2, From: 2})
	}
}

func TestAnswersAreNewMemory(t *testing.T) {
	old := []api.Extent{{At: 1, Len: 4, Id: 1}, {At: 7, Len: 2, Id: 2}}
	x := made(t, old...)
	spoil := func(l []api.Extent) {
		l = l[:cap(l)]
		for i := range l {
			l[i] = api.Extent{At: 99, Len: 99, Id: 99, From: 99}
		}
	}
	kept := x.All()
	spoil(x.All())
	spoil(x.Look(0, most))
	spoil(x.Look(1, 4))
	want(t, x, old...)
	if !slices.Equal(kept, old) {
		t.Errorf("answers share memory: %v", kept)
	}
	seen := x.Look(0, 9)
	x.Put(api.Extent{At: 2, Len: 1, Id: 5})
	x.Move(1, 0, 9, 6)
	x.Cut(3)
	if !slices.Equal(kept, old) || !slices.Equal(seen, old) {
		t.Errorf("answers are changed later: %v, %v", kept, seen)
	}
}

func TestNilThing(t *testing.T) {
	var x *extents.Extents
	if err := x.Put(api.Extent{Len: 1}); err != api.OK {
		t.Errorf("Put = %d", err)
	}
	if err := x.Put(api.Extent{}); err != api.OK {
		t.Errorf("Put = %d", err)
	}
	x.Cut(0)
	x.Hole(0, 5)
	if len(x.Look(0, 5)) != 0 || len(x.All()) != 0 || x.End() != 0 || x.Uses(0) != 0 || x.Move(0, 0, 5, 1) != 0 {
		t.Error("a nil thing answers something")
	}
}

func TestManyPieces(t *testing.T) {
	x, n := extents.New(), 0
	for i := 0; i < most; i += 2 {
		x.Put(api.Extent{At: most - 2 - i, Len: 1, Id: 1, From: most - 2 - i})
		n++
	}
	if l := x.All(); len(l) != n || x.Uses(1) != n {
		t.Fatalf("%d pieces, %d bytes", len(l), x.Uses(1))
	}
	for i := 1; i < most; i += 2 {
		x.Put(api.Extent{At: i, Len: 1, Id: 2, From: i})
	}
	if l := x.All(); len(l) != most {
		t.Fatalf("%d pieces", len(l))
	}
	if got := x.Move(2, 0, most, 1); got != n {
		t.Errorf("Move = %d", got)
	}
	want(t, x, api.Extent{Len: most, Id: 1})
}

// number is an ordinary number most times, and a wild one else.
func number(l *lot, n int) int {
	if l.below(16) == 0 {
		return wild[l.below(len(wild))]
	}
	return l.below(n+4) - 2
}

// step does one thing to both files, and asks that they answer the same.
func step(t *testing.T, l *lot, x *extents.Extents, p *plain, size int) {
	t.Helper()
	a, b, c, d := number(l, size), number(l, size/4+1), number(l, 3), number(l, size)
	switch l.below(8) {
	case 0, 1, 2:
		e := api.Extent{At: a, Len: b, Id: c, From: d}
		if l.below(2) == 0 {
			e.From = e.At
		}
		if got, want := x.Put(e), p.put(e); got != want {
			t.Fatalf("Put(%v) = %d, want %d", e, got, want)
		}
	case 3:
		if l.below(4) == 0 {
			x.Cut(a)
			p.cut(a)
		}
	case 4:
		x.Hole(a, b)
		p.hole(a, b)
	case 5:
		if got, want := x.Look(a, b), p.look(a, b); !slices.Equal(got, want) {
			t.Fatalf("Look(%d, %d) = %v, want %v", a, b, got, want)
		}
	case 6:
		if got, want := x.Uses(c), p.uses(c); got != want {
			t.Fatalf("Uses(%d) = %d, want %d", c, got, want)
		}
	case 7:
		to := number(l, 3)
		if got, want := x.Move(c, d, b, to), p.move(c, d, b, to); got != want {
			t.Fatalf("Move(%d, %d, %d, %d) = %d, want %d", c, d, b, to, got, want)
		}
	}
	if got, want := x.All(), p.look(0, most); !slices.Equal(got, want) {
		t.Fatalf("All() = %v, want %v", got, want)
	}
	if got, want := x.End(), p.end(); got != want {
		t.Fatalf("End() = %d, want %d", got, want)
	}
}

func TestAgainstPlainBytes(t *testing.T) {
	l := lot(5)
	for _, size := range []int{4, 12, 40, 300, most} {
		for range 6 {
			x, p := extents.New(), new(plain)
			for range 250 {
				step(t, &l, x, p, size)
			}
		}
	}
}

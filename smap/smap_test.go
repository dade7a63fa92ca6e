package smap_test

import (
	"math"
	"slices"
	"testing"

	"hurdle/api"
	"hurdle/smap"
)

const (
	mostLive  = 256
	mostKnown = 4096
	owners    = 16
	servers   = 64
	mostBytes = 1 << 16
)

const (
	begun     = api.StripeBegun
	committed = api.StripeCommitted
	freed     = api.StripeFreed
)

func notServers() []int {
	return []int{math.MinInt, -64, -2, -1, 64, 65, 127, 128, 255, 256, 1 << 32, 5 + 1<<32, math.MaxInt}
}

func notOwners() []int {
	return []int{math.MinInt, -16, -2, -1, 16, 17, 31, 32, 255, 256, 1 << 32, 5 + 1<<32, math.MaxInt}
}

// notIds are numbers of which none is one of count stripes.
func notIds(count int) []int {
	return []int{math.MinInt, -count, -2, -1, count, count + 1, count + 64, mostKnown, 1 << 32, 1<<32 + count - 1, math.MaxInt}
}

// upTo is the row of numbers from first on, count of them.
func upTo(first, count int) []int {
	var l []int
	for i := range count {
		l = append(l, first+i)
	}
	return l
}

// brief is the beginning of a list that is told.
func brief(l []int) []int {
	return l[:min(len(l), 12)]
}

func wantBegin(t *testing.T, m *smap.Map, owner, epoch, length int, on []int, id int, want api.Errno) {
	t.Helper()
	if got, err := m.Begin(owner, epoch, length, on); got != id || err != want {
		t.Errorf("Begin(%d, %d, %d, %v of %d): %d and %d, want %d and %d", owner, epoch, length, brief(on), len(on), got, err, id, want)
	}
}

func wantCommit(t *testing.T, m *smap.Map, id, owner int, want api.Errno) {
	t.Helper()
	if got := m.Commit(id, owner); got != want {
		t.Errorf("Commit(%d, %d): %d, want %d", id, owner, got, want)
	}
}

func wantFree(t *testing.T, m *smap.Map, id int, want api.Errno) {
	t.Helper()
	if got := m.Free(id); got != want {
		t.Errorf("Free(%d): %d, want %d", id, got, want)
	}
}

func wantMove(t *testing.T, m *smap.Map, id, index, server int, want api.Errno) {
	t.Helper()
	if got := m.Move(id, index, server); got != want {
		t.Errorf("Move(%d, %d, %d): %d, want %d", id, index, server, got, want)
	}
}

func wantDrop(t *testing.T, m *smap.Map, owner int, want []int) {
	t.Helper()
	if got := m.Drop(owner); !slices.Equal(got, want) {
		t.Errorf("Drop(%d): %v of %d, want %v of %d", owner, brief(got), len(got), brief(want), len(want))
	}
}

func wantList(t *testing.T, m *smap.Map, state int, want []int) {
	t.Helper()
	if got := m.List(state); !slices.Equal(got, want) {
		t.Errorf("List(%d): %v of %d, want %v of %d", state, brief(got), len(got), brief(want), len(want))
	}
}

func wantOn(t *testing.T, m *smap.Map, server int, want []int) {
	t.Helper()
	if got := m.On(server); !slices.Equal(got, want) {
		t.Errorf("On(%d): %v of %d, want %v of %d", server, brief(got), len(got), brief(want), len(want))
	}
}

func same(a, b api.Stripe) bool {
	return a.Id == b.Id && a.State == b.State && a.Owner == b.Owner && a.Epoch == b.Epoch && a.Length == b.Length && slices.Equal(a.Servers, b.Servers)
}

func wantGet(t *testing.T, m *smap.Map, want api.Stripe) {
	t.Helper()
	if got, ok := m.Get(want.Id); !ok || !same(got, want) {
		t.Errorf("Get(%d): %+v and %v, want %+v", want.Id, got, ok, want)
	}
}

func wantNoStripe(t *testing.T, m *smap.Map, id int) {
	t.Helper()
	if got, ok := m.Get(id); ok || !same(got, api.Stripe{}) {
		t.Errorf("Get(%d): %+v and %v, want none", id, got, ok)
	}
}

// wantAll asks all that is told of a map that has just those stripes.
func wantAll(t *testing.T, m *smap.Map, all []api.Stripe) {
	t.Helper()
	states, on := map[int][]int{}, map[int][]int{}
	for _, s := range all {
		wantGet(t, m, s)
		states[s.State] = append(states[s.State], s.Id)
		for _, server := range s.Servers {
			if s.State != freed {
				on[server] = append(on[server], s.Id)
			}
		}
	}
	wantNoStripe(t, m, len(all))
	wantNoStripe(t, m, -1)
	for state := -1; state <= 4; state++ {
		wantList(t, m, state, states[state])
	}
	for server := -1; server <= servers; server++ {
		wantOn(t, m, server, on[server])
	}
	wantText(t, m, allText(all...))
}

// three is a map of which stripe 0 is begun, 1 committed, 2 freed.
func three(t *testing.T) (*smap.Map, []api.Stripe) {
	t.Helper()
	m := smap.New()
	wantBegin(t, m, 3, 1, 10, []int{5, 6, 7}, 0, api.OK)
	wantBegin(t, m, 0, 2, 0, []int{63, 0}, 1, api.OK)
	wantBegin(t, m, 15, 7, mostBytes, []int{7, 1, 2, 8}, 2, api.OK)
	wantCommit(t, m, 1, 0, api.OK)
	wantFree(t, m, 2, api.OK)
	all := []api.Stripe{
		{Id: 0, State: begun, Owner: 3, Epoch: 1, Length: 10, Servers: []int{5, 6, 7}},
		{Id: 1, State: committed, Owner: 0, Epoch: 2, Length: 0, Servers: []int{63, 0}},
		{Id: 2, State: freed, Owner: 15, Epoch: 7, Length: mostBytes, Servers: []int{7, 1, 2, 8}},
	}
	wantAll(t, m, all)
	return m, all
}

// filled has count stripes, each begun by owner 1 on servers 0 and 1.
func filled(t *testing.T, count int) *smap.Map {
	t.Helper()
	m := smap.New()
	for id := range count {
		wantBegin(t, m, 1, 1, 1, []int{0, 1}, id, api.OK)
	}
	return m
}

// spent knows as many as may be known, all of them freed but the last ones, which are kept.
func spent(t *testing.T, kept int) *smap.Map {
	t.Helper()
	m := smap.New()
	for id := range mostKnown {
		wantBegin(t, m, 1, 1, 1, []int{0, 1}, id, api.OK)
		if id < mostKnown-kept {
			wantFree(t, m, id, api.OK)
		}
	}
	return m
}

func TestExample(t *testing.T) {
	m := smap.New()
	wantBegin(t, m, 1, 1, 10, []int{5, 6, 7}, 0, api.OK)
	wantCommit(t, m, 0, 1, api.OK)
	wantCommit(t, m, 0, 1, api.ErrState)
	wantAll(t, m, []api.Stripe{{Id: 0, State: committed, Owner: 1, Epoch: 1, Length: 10, Servers: []int{5, 6, 7}}})
}

func TestNew(t *testing.T) {
	m := smap.New()
	if m == nil {
		t.Fatal("New: nil")
	}
	wantAll(t, m, nil)
	for _, id := range notIds(0) {
		wantNoStripe(t, m, id)
	}
}

func TestBegin(t *testing.T) {
	m := smap.New()
	var all []api.Stripe
	for _, c := range []api.Stripe{
		{Owner: 0, Epoch: 1, Length: 0, Servers: []int{0, 1}},
		{Owner: 15, Epoch: math.MaxInt, Length: mostBytes, Servers: upTo(56, 8)},
		{Owner: 7, Epoch: 1 << 32, Length: 1, Servers: []int{63, 0, 31}},
		{Owner: 7, Epoch: 2, Length: mostBytes - 1, Servers: []int{7, 6, 5, 4, 3, 2, 1, 0}},
		{Owner: 7, Epoch: 2, Length: mostBytes - 1, Servers: []int{7, 6, 5, 4, 3, 2, 1, 0}},
		{Owner: 1, Epoch: 1, Length: 512, Servers: []int{9, 3, 5, 40}},
	} {
		c.Id, c.State = len(all), begun
		wantBegin(t, m, c.Owner, c.Epoch, c.Length, c.Servers, c.Id, api.OK)
		all = append(all, c)
		wantAll(t, m, all)
	}
}

func TestBeginRefuses(t *testing.T) {
	m, all := three(t)
	on := []int{5, 6, 7}
	for _, owner := range notOwners() {
		wantBegin(t, m, owner, 1, 10, on, 0, api.ErrArg)
	}
	for _, epoch := range []int{math.MinInt, -1 << 32, -2, -1, 0} {
		wantBegin(t, m, 1, epoch, 10, on, 0, api.ErrArg)
	}
	for _, length := range []int{math.MinInt, -mostBytes, -2, -1, mostBytes + 1, 2 * mostBytes, 1 << 32, math.MaxInt} {
		wantBegin(t, m, 1, 1, length, on, 0, api.ErrArg)
	}
	for n := range 2 * servers {
		if n < 2 || n > 8 {
			wantBegin(t, m, 1, 1, 10, upTo(0, n), 0, api.ErrArg)
			wantBegin(t, m, 1, 1, 10, make([]int, n), 0, api.ErrArg)
		}
	}
	wantBegin(t, m, 1, 1, 10, []int{}, 0, api.ErrArg)
	wantBegin(t, m, 1, 1, 10, make([]int, 1000000), 0, api.ErrArg)
	wantAll(t, m, all)
	wantBegin(t, m, 1, 1, 10, on, 3, api.OK)
}

func TestBeginRefusesServers(t *testing.T) {
	m := smap.New()
	for n := 2; n <= 8; n++ {
		for place := range n {
			for _, server := range notServers() {
				on := upTo(0, n)
				on[place] = server
				wantBegin(t, m, 1, 1, 10, on, 0, api.ErrArg)
			}
			for other := range n {
				on := upTo(56, n)
				on[place] = on[other]
				if place != other {
					wantBegin(t, m, 1, 1, 10, on, 0, api.ErrArg)
				}
			}
		}
	}
	wantBegin(t, m, 1, 1, 10, []int{0, 0}, 0, api.ErrArg)
	wantBegin(t, m, 1, 1, 10, []int{63, 63}, 0, api.ErrArg)
	wantAll(t, m, nil)
}

// Any one that is freed leaves room for one more; what is committed does not.
func TestBeginOfAllThatAreNotFreed(t *testing.T) {
	m := filled(t, mostLive)
	full := func() {
		t.Helper()
		wantBegin(t, m, 1, 1, 1, []int{0, 1}, 0, api.ErrFull)
		wantBegin(t, m, 16, 1, 1, []int{0, 1}, 0, api.ErrArg)
		wantBegin(t, m, 1, 1, 1, []int{0, 0}, 0, api.ErrArg)
	}
	full()
	wantNoStripe(t, m, mostLive)
	wantList(t, m, begun, upTo(0, mostLive))
	wantCommit(t, m, 0, 1, api.OK)
	full()
	wantFree(t, m, 0, api.OK)
	wantBegin(t, m, 2, 1, 1, []int{2, 3}, 256, api.OK)
	full()
	wantFree(t, m, 100, api.OK)
	wantBegin(t, m, 2, 1, 1, []int{2, 3}, 257, api.OK)
	full()
	wantDrop(t, m, 2, []int{256, 257})
	wantBegin(t, m, 3, 1, 1, []int{2, 3}, 258, api.OK)
	wantBegin(t, m, 3, 1, 1, []int{2, 3}, 259, api.OK)
	full()
	wantList(t, m, freed, []int{0, 100, 256, 257})
}

func TestBeginOfAllThatMayBeKnown(t *testing.T) {
	for _, kept := range []int{0, 1, mostLive - 1, mostLive} {
		m, rest := spent(t, kept), mostKnown-kept
		wantBegin(t, m, 1, 1, 1, []int{0, 1}, 0, api.ErrFull)
		wantBegin(t, m, 1, 0, 1, []int{0, 1}, 0, api.ErrArg)
		wantNoStripe(t, m, mostKnown)
		wantList(t, m, begun, upTo(rest, kept))
		wantList(t, m, freed, upTo(0, rest))
		wantFree(t, m, 0, api.ErrState)
		wantDrop(t, m, 1, upTo(rest, kept))
		wantBegin(t, m, 1, 1, 1, []int{0, 1}, 0, api.ErrFull)
		wantList(t, m, freed, upTo(0, mostKnown))
	}
}

func TestCommit(t *testing.T) {
	m := smap.New()
	var all []api.Stripe
	for owner := range owners {
		s := api.Stripe{Id: owner, State: begun, Owner: owner, Epoch: 1, Length: owner, Servers: []int{owner, 63}}
		wantBegin(t, m, owner, 1, owner, s.Servers, owner, api.OK)
		all = append(all, s)
	}
	for owner := range owners {
		for other := range owners {
			if other != owner {
				wantCommit(t, m, owner, other, api.ErrState)
			}
		}
		for _, other := range notOwners() {
			wantCommit(t, m, owner, other, api.ErrState)
		}
		wantAll(t, m, all)
		wantCommit(t, m, owner, owner, api.OK)
		all[owner].State = committed
		wantAll(t, m, all)
		wantCommit(t, m, owner, owner, api.ErrState)
	}
	wantAll(t, m, all)
}

func TestCommitRefuses(t *testing.T) {
	m, all := three(t)
	for _, id := range notIds(3) {
		for _, owner := range append(notOwners(), 0, 3, 15) {
			wantCommit(t, m, id, owner, api.ErrNone)
		}
	}
	for owner := -1; owner <= owners; owner++ {
		wantCommit(t, m, 1, owner, api.ErrState)
		wantCommit(t, m, 2, owner, api.ErrState)
		if owner != 3 {
			wantCommit(t, m, 0, owner, api.ErrState)
		}
	}
	wantAll(t, m, all)
	wantCommit(t, smap.New(), 0, 0, api.ErrNone)
}

func TestFree(t *testing.T) {
	m, all := three(t)
	for _, id := range notIds(3) {
		wantFree(t, m, id, api.ErrNone)
	}
	wantFree(t, m, 2, api.ErrState)
	wantAll(t, m, all)
	for _, id := range []int{1, 0} {
		wantFree(t, m, id, api.OK)
		all[id].State = freed
		wantAll(t, m, all)
		wantFree(t, m, id, api.ErrState)
		wantCommit(t, m, id, all[id].Owner, api.ErrState)
		wantAll(t, m, all)
	}
	wantFree(t, smap.New(), 0, api.ErrNone)
}

func TestDrop(t *testing.T) {
	m := smap.New()
	var all []api.Stripe
	for id := range 24 {
		s := api.Stripe{Id: id, State: begun, Owner: id % 3, Epoch: 1 + id, Length: id, Servers: []int{id, id + 1, 40}}
		wantBegin(t, m, s.Owner, s.Epoch, s.Length, s.Servers, id, api.OK)
		if id%4 == 1 {
			wantCommit(t, m, id, s.Owner, api.OK)
			s.State = committed
		}
		if id%4 == 2 {
			wantFree(t, m, id, api.OK)
			s.State = freed
		}
		all = append(all, s)
	}
	wantAll(t, m, all)
	for _, owner := range append(notOwners(), 3, 15) {
		wantDrop(t, m, owner, nil)
	}
	wantAll(t, m, all)
	for _, owner := range []int{1, 2, 0} {
		var ids []int
		for id := range all {
			if all[id].Owner == owner && all[id].State == begun {
				ids, all[id].State = append(ids, id), freed
			}
		}
		wantDrop(t, m, owner, ids)
		wantAll(t, m, all)
		wantDrop(t, m, owner, nil)
		wantAll(t, m, all)
	}
	if n := len(m.List(committed)); n != 6 {
		t.Errorf("%d are committed", n)
	}
	wantDrop(t, smap.New(), 0, nil)
}

func TestMove(t *testing.T) {
	m, all := three(t)
	for _, c := range []struct{ id, index, server int }{
		{0, 0, 9}, {0, 2, 63}, {0, 1, 0}, {1, 0, 62}, {1, 1, 63}, {1, 0, 0}, {0, 0, 5}, {0, 2, 6}, {0, 1, 7},
	} {
		wantMove(t, m, c.id, c.index, c.server, api.OK)
		all[c.id].Servers[c.index] = c.server
		wantAll(t, m, all)
	}
	// Where it stands already it may stand.
	for id, s := range all[:2] {
		for index, server := range s.Servers {
			wantMove(t, m, id, index, server, api.OK)
		}
	}
	wantAll(t, m, all)
}

func TestMoveOfAllWidths(t *testing.T) {
	for n := 2; n <= 8; n++ {
		m, on := smap.New(), upTo(10, n)
		wantBegin(t, m, 1, 1, 1, on, 0, api.OK)
		for index := -2; index < 12; index++ {
			for server := range servers {
				stands := slices.Index(on, server)
				switch {
				case index < 0 || index >= n:
					wantMove(t, m, 0, index, server, api.ErrArg)
				case stands >= 0 && stands != index:
					wantMove(t, m, 0, index, server, api.ErrTwice)
				default:
					wantMove(t, m, 0, index, server, api.OK)
					on[index] = server
				}
				wantGet(t, m, api.Stripe{State: begun, Owner: 1, Epoch: 1, Length: 1, Servers: on})
			}
		}
	}
}

func TestMoveRefuses(t *testing.T) {
	m, all := three(t)
	for id, s := range all {
		n := len(s.Servers)
		for _, index := range []int{math.MinInt, -8, -1, n, n + 1, 8, 9, 64, 1 << 32, math.MaxInt} {
			for _, server := range append(notServers(), 0, 5, 7, 20, 63) {
				wantMove(t, m, id, index, server, api.ErrArg)
			}
		}
		for index := range n {
			for _, server := range notServers() {
				wantMove(t, m, id, index, server, api.ErrArg)
			}
		}
	}
	wantMove(t, m, 0, 0, 6, api.ErrTwice)
	wantMove(t, m, 0, 2, 5, api.ErrTwice)
	wantMove(t, m, 1, 1, 63, api.ErrTwice)
	wantMove(t, m, 1, 0, 0, api.ErrTwice)
	// Of a freed one ErrTwice goes ahead, as its number is less.
	for index, at := range all[2].Servers {
		for _, server := range []int{0, 9, 20, 63, at} {
			wantMove(t, m, 2, index, server, api.ErrState)
		}
		wantMove(t, m, 2, index, all[2].Servers[(index+1)%4], api.ErrTwice)
	}
	wantAll(t, m, all)
}

// One that is not known has no width, so any that a stripe may have goes.
func TestMoveOfWhatIsNotKnown(t *testing.T) {
	full, all := three(t)
	for count, m := range map[int]*smap.Map{0: smap.New(), 3: full} {
		for _, id := range notIds(count) {
			for index := range 8 {
				for _, server := range []int{0, 5, 20, 63} {
					wantMove(t, m, id, index, server, api.ErrNone)
				}
				for _, server := range notServers() {
					wantMove(t, m, id, index, server, api.ErrArg)
				}
			}
			for _, index := range []int{math.MinInt, -8, -1, 8, 9, 64, 1 << 32, math.MaxInt} {
				for _, server := range []int{-1, 0, 5, 63, 64} {
					wantMove(t, m, id, index, server, api.ErrArg)
				}
			}
		}
	}
	wantAll(t, full, all)
}

func TestGet(t *testing.T) {
	m, all := three(t)
	for _, id := range notIds(3) {
		wantNoStripe(t, m, id)
	}
	wantAll(t, m, all)
}

func TestListAndOnOfWhatIsNone(t *testing.T) {
	m, _ := three(t)
	for _, n := range notServers() {
		wantList(t, m, n, nil)
		wantOn(t, m, n, nil)
	}
	for _, state := range []int{0, 4, 5, 259} {
		wantList(t, m, state, nil)
	}
	// Of 2, which is freed, none is needed.
	wantOn(t, m, 8, nil)
	wantOn(t, m, 7, []int{0})
	wantOn(t, m, 63, []int{1})
	// Not where a fragment stood ahead.
	wantMove(t, m, 0, 2, 8, api.OK)
	wantOn(t, m, 7, nil)
	wantOn(t, m, 8, []int{0})
}

func TestNil(t *testing.T) {
	var m *smap.Map
	wantBegin(t, m, 1, 1, 1, []int{0, 1}, 0, api.ErrArg)
	wantBegin(t, m, -1, 0, -1, nil, 0, api.ErrArg)
	wantCommit(t, m, 0, 0, api.ErrArg)
	wantCommit(t, m, -1, -1, api.ErrArg)
	wantFree(t, m, 0, api.ErrArg)
	wantFree(t, m, -1, api.ErrArg)
	wantMove(t, m, 0, 0, 0, api.ErrArg)
	wantMove(t, m, -1, -1, -1, api.ErrArg)
	wantNoStripe(t, m, 0)
	wantNoStripe(t, m, -1)
	for n := -1; n < 5; n++ {
		wantDrop(t, m, n, nil)
		wantList(t, m, n, nil)
		wantOn(t, m, n, nil)
	}
	wantText(t, m, "")
}

func TestMapsAreApart(t *testing.T) {
	a, all := three(t)
	b, c := wantRead(t, a.Text()), smap.New()
	wantMove(t, b, 0, 0, 50, api.OK)
	wantCommit(t, b, 0, 3, api.OK)
	wantFree(t, b, 1, api.OK)
	wantBegin(t, b, 1, 1, 1, []int{0, 1}, 3, api.OK)
	wantBegin(t, c, 1, 1, 1, []int{0, 1}, 0, api.OK)
	wantAll(t, a, all)
	wantDrop(t, a, 3, []int{0})
	wantGet(t, b, api.Stripe{Id: 0, State: committed, Owner: 3, Epoch: 1, Length: 10, Servers: []int{50, 6, 7}})
	wantAll(t, c, []api.Stripe{{State: begun, Owner: 1, Epoch: 1, Length: 1, Servers: []int{0, 1}}})
}

// Neither what is handed in nor what lies behind its end is changed or kept.
func TestServersAreNotKeptAsTheyCame(t *testing.T) {
	row := []int{1, 2, 3, 60, 61}
	was := slices.Clone(row)
	m := smap.New()
	wantBegin(t, m, 1, 1, 1, row[:3], 0, api.OK)
	wantBegin(t, m, 1, 1, 1, row[:3], 1, api.OK)
	wantMove(t, m, 0, 1, 9, api.OK)
	if !slices.Equal(row, was) {
		t.Errorf("%v is now %v", was, row)
	}
	clear(row)
	wantMove(t, m, 0, 2, 8, api.OK)
	wantAll(t, m, []api.Stripe{
		{Id: 0, State: begun, Owner: 1, Epoch: 1, Length: 1, Servers: []int{1, 9, 8}},
		{Id: 1, State: begun, Owner: 1, Epoch: 1, Length: 1, Servers: []int{1, 2, 3}},
	})
	if slices.Max(row) > 0 {
		t.Errorf("%v stands where the servers were", row)
	}
}

// What is done to an answer, behind its end too, does not show, nor does what is done behind it change it.
func TestAnswersAreNewMemory(t *testing.T) {
	m := filled(t, 5)
	wantCommit(t, m, 4, 1, api.OK)
	servers := func() []int {
		s, _ := m.Get(2)
		return s.Servers
	}
	for _, list := range []func() []int{servers, func() []int { return m.List(begun) }, func() []int { return m.On(1) }} {
		first, second := list(), list()
		was := slices.Clone(second)
		for i := range first[:cap(first)] {
			first[:cap(first)][i] = 50
		}
		if !slices.Equal(second, was) || !slices.Equal(list(), was) {
			t.Errorf("%v is now %v, and %v is told", was, second, list())
		}
	}
	told, known, on := servers(), m.List(begun), m.On(1)
	wantMove(t, m, 2, 1, 9, api.OK)
	dropped := m.Drop(1)
	if !slices.Equal(told, []int{0, 1}) || !slices.Equal(known, upTo(0, 4)) || !slices.Equal(on, upTo(0, 5)) {
		t.Errorf("what was told is now %v, %v and %v", told, known, on)
	}
	clear(dropped)
	wantList(t, m, freed, upTo(0, 4))
	wantList(t, m, committed, []int{4})
}

package members_test

import (
	"math"
	"slices"
	"testing"

	"hurdle/api"
	"hurdle/members"
)

const (
	mostServers = 8
	ids         = 64
	noHole      = -1
)

func notIds() []int {
	return []int{math.MinInt, -64, -2, -1, 64, 65, 127, 128, 255, 256, 1 << 32, 5 + 1<<32, math.MaxInt}
}

// notEpoch are those that are not the epoch.
func notEpoch(epoch int) []int {
	return []int{math.MinInt, -epoch, -1, 0, epoch - 1, epoch + 1, epoch + 1<<32, math.MaxInt}
}

// upTo is the row of numbers from first on, count of them.
func upTo(first, count int) []int {
	var l []int
	for i := range count {
		l = append(l, first+i)
	}
	return l
}

func newGroup(t *testing.T, servers, spares []int) *members.Members {
	t.Helper()
	m := members.New(servers, spares)
	if m == nil {
		t.Fatalf("New(%v, %v): nil", servers, spares)
	}
	return m
}

func wantNoGroup(t *testing.T, servers, spares []int) {
	t.Helper()
	if members.New(servers, spares) != nil {
		t.Errorf("New(%v, %v): not nil", servers, spares)
	}
}

// failed has servers 1, 2, 3 and spares 9 and 8, and the disk of 2 is lost: its epoch is 2.
func failed(t *testing.T) *members.Members {
	t.Helper()
	m := newGroup(t, []int{1, 2, 3}, []int{9, 8})
	wantFail(t, m, 2, 1, api.OK)
	return m
}

// swapped is a failed one with 9 in the place of 2: its epoch is 3.
func swapped(t *testing.T) *members.Members {
	t.Helper()
	m := failed(t)
	wantSwap(t, m, 2, 9, api.OK)
	return m
}

func wantFail(t *testing.T, m *members.Members, server, epoch int, want api.Errno) {
	t.Helper()
	if got := m.Fail(server, epoch); got != want {
		t.Errorf("Fail(%d, %d): %d, want %d", server, epoch, got, want)
	}
}

func wantSwap(t *testing.T, m *members.Members, epoch, which int, want api.Errno) {
	t.Helper()
	if got, err := m.Swap(epoch); got != which || err != want {
		t.Errorf("Swap(%d): %d and %d, want %d and %d", epoch, got, err, which, want)
	}
}

func wantDone(t *testing.T, m *members.Members, epoch int, want api.Errno) {
	t.Helper()
	if got := m.Done(epoch); got != want {
		t.Errorf("Done(%d): %d, want %d", epoch, got, want)
	}
}

func wantAdd(t *testing.T, m *members.Members, spare int, want api.Errno) {
	t.Helper()
	if got := m.Add(spare); got != want {
		t.Errorf("Add(%d): %d, want %d", spare, got, want)
	}
}

// wantGroup asks all that is told of a group.
func wantGroup(t *testing.T, m *members.Members, epoch, hole int, servers, spares []int) {
	t.Helper()
	if got := m.Epoch(); got != epoch {
		t.Errorf("Epoch: %d, want %d", got, epoch)
	}
	if got := m.Hole(); got != hole {
		t.Errorf("Hole: %d, want %d", got, hole)
	}
	if got := m.Servers(); !slices.Equal(got, servers) {
		t.Errorf("Servers: %v, want %v", got, servers)
	}
	if got := m.Spares(); !slices.Equal(got, spares) {
		t.Errorf("Spares: %v, want %v", got, spares)
	}
}

func TestExample(t *testing.T) {
	m := newGroup(t, []int{1, 2, 3}, []int{9})
	wantFail(t, m, 2, 1, api.OK)
	wantSwap(t, m, 2, 9, api.OK)
	wantGroup(t, m, 3, 1, []int{1, 9, 3}, nil)
}

func TestNew(t *testing.T) {
	for _, c := range []struct{ servers, spares []int }{
		{[]int{0, 1}, nil},
		{[]int{63, 0}, []int{}},
		{[]int{5, 2, 9}, []int{63, 0, 7}},
		{[]int{0, 1}, upTo(2, 62)},
		{upTo(56, 8), upTo(0, 56)},
		{[]int{7, 6, 5, 4, 3, 2, 1, 0}, []int{8}},
	} {
		wantGroup(t, newGroup(t, c.servers, c.spares), 1, noHole, c.servers, c.spares)
	}
}

func TestNewOfSoManyServers(t *testing.T) {
	for n := range 2 * ids {
		servers := upTo(0, min(n, ids))
		if n > ids {
			servers = append(servers, upTo(0, n-ids)...)
		}
		for _, spares := range [][]int{nil, {63}} {
			if n >= 2 && n <= mostServers {
				wantGroup(t, newGroup(t, servers, spares), 1, noHole, servers, spares)
			} else {
				wantNoGroup(t, servers, spares)
			}
		}
	}
	wantNoGroup(t, nil, nil)
	wantNoGroup(t, []int{}, []int{})
	wantNoGroup(t, nil, []int{1, 2, 3})
	wantNoGroup(t, []int{5}, upTo(6, 50))
}

func TestNewRefusesNumbers(t *testing.T) {
	for _, id := range notIds() {
		for place := range mostServers {
			servers, spares := upTo(0, mostServers), upTo(10, mostServers)
			newGroup(t, servers, spares)
			servers[place] = id
			wantNoGroup(t, servers, spares)
			wantNoGroup(t, servers, nil)
			servers[place], spares[place] = place, id
			wantNoGroup(t, servers, spares)
		}
		wantNoGroup(t, []int{id, 1}, nil)
		wantNoGroup(t, []int{0, id}, nil)
		wantNoGroup(t, []int{0, 1}, []int{id})
		wantNoGroup(t, []int{0, 1}, append(upTo(2, 62), id))
	}
}

func TestNewRefusesTheSame(t *testing.T) {
	for a := range mostServers {
		for b := range mostServers {
			servers, spares := upTo(0, mostServers), upTo(10, mostServers)
			spares[b] = servers[a]
			wantNoGroup(t, servers, spares)
			if a == b {
				continue
			}
			servers, spares = upTo(0, mostServers), upTo(10, mostServers)
			servers[a] = servers[b]
			wantNoGroup(t, servers, spares)
			wantNoGroup(t, servers, nil)
			servers, spares = upTo(0, mostServers), upTo(10, mostServers)
			spares[a] = spares[b]
			wantNoGroup(t, servers, spares)
		}
	}
	wantNoGroup(t, []int{0, 0}, nil)
	wantNoGroup(t, []int{63, 63}, nil)
	wantNoGroup(t, []int{0, 1}, append(upTo(2, 62), 63))
	wantNoGroup(t, []int{0, 1}, make([]int, 1000000))
}

func TestFail(t *testing.T) {
	for n := 2; n <= mostServers; n++ {
		for place := range n {
			servers, spares := upTo(63-n, n), []int{0, 63}
			m := newGroup(t, servers, spares)
			wantFail(t, m, servers[place], 1, api.OK)
			wantGroup(t, m, 2, place, servers, spares)
		}
	}
}

func TestFailRefuses(t *testing.T) {
	servers, spares := []int{1, 0, 3}, []int{9, 8}
	m := newGroup(t, servers, spares)
	// No server, in whatever epoch.
	for _, server := range append(notIds(), 2, 4, 9, 8, 63) {
		for _, epoch := range append(notEpoch(1), 1) {
			wantFail(t, m, server, epoch, api.ErrNone)
		}
	}
	for _, server := range servers {
		for _, epoch := range notEpoch(1) {
			wantFail(t, m, server, epoch, api.ErrEpoch)
		}
	}
	wantGroup(t, m, 1, noHole, servers, spares)
	wantFail(t, m, 0, 1, api.OK)
}

// The gone one is a server till its place is filled, the spare from then on.
func TestFailBesideAHole(t *testing.T) {
	open, filled := failed(t), swapped(t)
	for epoch := range 5 {
		for _, server := range []int{1, 2, 3} {
			wantFail(t, open, server, epoch, api.ErrLost)
		}
		for _, server := range []int{-1, 0, 4, 8, 9} {
			wantFail(t, open, server, epoch, api.ErrNone)
		}
		for _, server := range []int{1, 9, 3} {
			wantFail(t, filled, server, epoch, api.ErrLost)
		}
		for _, server := range []int{-1, 0, 4, 8, 2} {
			wantFail(t, filled, server, epoch, api.ErrNone)
		}
	}
	wantGroup(t, open, 2, 1, []int{1, 2, 3}, []int{9, 8})
	wantGroup(t, filled, 3, 1, []int{1, 9, 3}, []int{8})
}

func TestFailAgain(t *testing.T) {
	m := swapped(t)
	wantDone(t, m, 3, api.OK)
	wantFail(t, m, 2, 4, api.ErrNone)
	wantFail(t, m, 9, 3, api.ErrEpoch)
	wantFail(t, m, 9, 4, api.OK)
	wantGroup(t, m, 5, 1, []int{1, 9, 3}, []int{8})
	wantSwap(t, m, 5, 8, api.OK)
	wantGroup(t, m, 6, 1, []int{1, 8, 3}, nil)
	wantDone(t, m, 6, api.OK)
	wantFail(t, m, 3, 7, api.OK)
	wantGroup(t, m, 8, 2, []int{1, 8, 3}, nil)
}

func TestSwap(t *testing.T) {
	for n := 2; n <= mostServers; n++ {
		for place := range n {
			servers := upTo(0, n)
			m := newGroup(t, servers, []int{63, 20, 40})
			wantFail(t, m, place, 1, api.OK)
			wantSwap(t, m, 2, 63, api.OK)
			servers[place] = 63
			wantGroup(t, m, 3, place, servers, []int{20, 40})
		}
	}
	m := newGroup(t, []int{63, 5}, []int{0})
	wantFail(t, m, 63, 1, api.OK)
	wantSwap(t, m, 2, 0, api.OK)
	wantGroup(t, m, 3, 0, []int{0, 5}, nil)
}

func TestSwapWithoutASpare(t *testing.T) {
	servers := []int{1, 2, 3}
	m := newGroup(t, servers, nil)
	for _, epoch := range append(notEpoch(1), 1) {
		wantSwap(t, m, epoch, 0, api.ErrNone)
	}
	wantFail(t, m, 3, 1, api.OK)
	for _, epoch := range append(notEpoch(2), 2) {
		wantSwap(t, m, epoch, 0, api.ErrNone)
	}
	wantGroup(t, m, 2, 2, servers, nil)
	wantAdd(t, m, 7, api.OK)
	wantSwap(t, m, 2, 7, api.OK)
	for _, epoch := range append(notEpoch(3), 3) {
		wantSwap(t, m, epoch, 0, api.ErrNone)
	}
	wantGroup(t, m, 3, 2, []int{1, 2, 7}, nil)
}

func TestSwapRefuses(t *testing.T) {
	servers, spares := []int{1, 2, 3}, []int{9, 8}
	m := newGroup(t, servers, spares)
	for _, epoch := range notEpoch(1) {
		wantSwap(t, m, epoch, 0, api.ErrEpoch)
	}
	wantSwap(t, m, 1, 0, api.ErrState)
	wantGroup(t, m, 1, noHole, servers, spares)

	m = failed(t)
	for _, epoch := range notEpoch(2) {
		wantSwap(t, m, epoch, 0, api.ErrEpoch)
	}
	wantGroup(t, m, 2, 1, servers, spares)

	m = swapped(t)
	for _, epoch := range notEpoch(3) {
		wantSwap(t, m, epoch, 0, api.ErrEpoch)
	}
	wantSwap(t, m, 3, 0, api.ErrState)
	wantGroup(t, m, 3, 1, []int{1, 9, 3}, []int{8})

	wantDone(t, m, 3, api.OK)
	wantSwap(t, m, 3, 0, api.ErrEpoch)
	wantSwap(t, m, 4, 0, api.ErrState)
	wantGroup(t, m, 4, noHole, []int{1, 9, 3}, []int{8})
}

func TestDone(t *testing.T) {
	for n := 2; n <= mostServers; n++ {
		for place := range n {
			servers := upTo(10, n)
			m := newGroup(t, servers, []int{0, 1})
			wantFail(t, m, servers[place], 1, api.OK)
			wantSwap(t, m, 2, 0, api.OK)
			wantDone(t, m, 3, api.OK)
			servers[place] = 0
			wantGroup(t, m, 4, noHole, servers, []int{1})
		}
	}
}

func TestDoneRefuses(t *testing.T) {
	m := newGroup(t, []int{1, 2, 3}, []int{9, 8})
	for _, epoch := range notEpoch(1) {
		wantDone(t, m, epoch, api.ErrEpoch)
	}
	wantDone(t, m, 1, api.ErrState)
	wantGroup(t, m, 1, noHole, []int{1, 2, 3}, []int{9, 8})

	m = failed(t)
	for _, epoch := range notEpoch(2) {
		wantDone(t, m, epoch, api.ErrEpoch)
	}
	wantDone(t, m, 2, api.ErrState)
	wantGroup(t, m, 2, 1, []int{1, 2, 3}, []int{9, 8})

	m = swapped(t)
	for _, epoch := range notEpoch(3) {
		wantDone(t, m, epoch, api.ErrEpoch)
	}
	wantGroup(t, m, 3, 1, []int{1, 9, 3}, []int{8})
	wantDone(t, m, 3, api.OK)
	wantDone(t, m, 3, api.ErrEpoch)
	wantDone(t, m, 4, api.ErrState)
	wantGroup(t, m, 4, noHole, []int{1, 9, 3}, []int{8})
}

// It is the last one, and the epoch stays, whatever the hole is.
func TestAdd(t *testing.T) {
	for epoch, m := range []*members.Members{newGroup(t, []int{1, 2, 3}, []int{9, 8}), failed(t), swapped(t)} {
		hole, servers, spares := m.Hole(), m.Servers(), m.Spares()
		for _, spare := range []int{63, 0, 20} {
			wantAdd(t, m, spare, api.OK)
			spares = append(spares, spare)
			wantGroup(t, m, epoch+1, hole, servers, spares)
		}
	}
	m := newGroup(t, []int{1, 2}, nil)
	wantAdd(t, m, 0, api.OK)
	wantGroup(t, m, 1, noHole, []int{1, 2}, []int{0})
}

// All that are none yet may be spares, till none is left.
func TestAddOfAll(t *testing.T) {
	m := newGroup(t, []int{30, 20}, nil)
	var spares []int
	for round := range 2 {
		for id := ids - 1; id >= 0; id-- {
			if id == 30 || id == 20 || round > 0 {
				wantAdd(t, m, id, api.ErrTwice)
				continue
			}
			wantAdd(t, m, id, api.OK)
			spares = append(spares, id)
		}
	}
	wantGroup(t, m, 1, noHole, []int{30, 20}, spares)
}

func TestAddRefuses(t *testing.T) {
	for epoch, m := range []*members.Members{newGroup(t, []int{1, 2, 3}, []int{9, 8}), failed(t), swapped(t)} {
		hole, servers, spares := m.Hole(), m.Servers(), m.Spares()
		for _, spare := range notIds() {
			wantAdd(t, m, spare, api.ErrArg)
		}
		for _, spare := range []int{1, 2, 3, 9, 8} {
			wantAdd(t, m, spare, api.ErrTwice)
		}
		wantGroup(t, m, epoch+1, hole, servers, spares)
	}
}

// The gone one may be a spare when it is gone no more.
func TestAddOfTheGoneOne(t *testing.T) {
	m := swapped(t)
	wantAdd(t, m, 2, api.ErrTwice)
	wantDone(t, m, 3, api.OK)
	wantAdd(t, m, 2, api.OK)
	wantAdd(t, m, 2, api.ErrTwice)
	wantGroup(t, m, 4, noHole, []int{1, 9, 3}, []int{8, 2})
	wantFail(t, m, 1, 4, api.OK)
	wantSwap(t, m, 5, 8, api.OK)
	wantDone(t, m, 6, api.OK)
	wantFail(t, m, 8, 7, api.OK)
	wantSwap(t, m, 8, 2, api.OK)
	wantGroup(t, m, 9, 0, []int{2, 9, 3}, nil)
}

// What was added first goes first, behind the spares that were there.
func TestSparesGoInTheirOrder(t *testing.T) {
	m := newGroup(t, []int{0, 1}, []int{50, 10})
	order := []int{50, 10}
	for id := 40; id > 20; id -= 3 {
		wantAdd(t, m, id, api.OK)
		order = append(order, id)
	}
	servers, epoch := []int{0, 1}, 1
	for i, spare := range order {
		wantFail(t, m, servers[i%2], epoch, api.OK)
		wantSwap(t, m, epoch+1, spare, api.OK)
		servers[i%2] = spare
		wantGroup(t, m, epoch+2, i%2, servers, order[i+1:])
		wantDone(t, m, epoch+2, api.OK)
		epoch += 3
	}
	wantGroup(t, m, epoch, noHole, servers, nil)
}

func TestNil(t *testing.T) {
	var m *members.Members
	wantFail(t, m, 1, 1, api.ErrArg)
	wantFail(t, m, -1, 0, api.ErrArg)
	wantSwap(t, m, 0, 0, api.ErrArg)
	wantSwap(t, m, 1, 0, api.ErrArg)
	wantDone(t, m, 0, api.ErrArg)
	wantDone(t, m, 1, api.ErrArg)
	wantAdd(t, m, 1, api.ErrArg)
	wantAdd(t, m, -1, api.ErrArg)
	wantGroup(t, m, 0, noHole, nil, nil)
	wantText(t, m, "")
}

func TestGroupsAreApart(t *testing.T) {
	a := failed(t)
	b, c := newGroup(t, a.Servers(), a.Spares()), wantRead(t, a.Text())
	wantFail(t, b, 3, 1, api.OK)
	wantSwap(t, c, 2, 9, api.OK)
	wantAdd(t, b, 20, api.OK)
	wantAdd(t, c, 30, api.OK)
	wantGroup(t, a, 2, 1, []int{1, 2, 3}, []int{9, 8})
	wantGroup(t, b, 2, 2, []int{1, 2, 3}, []int{9, 8, 20})
	wantGroup(t, c, 3, 1, []int{1, 9, 3}, []int{8, 30})
}

// Neither what is handed in nor what lies behind its end is changed or kept.
func TestListsAreNotKeptAsTheyCame(t *testing.T) {
	row := []int{1, 2, 3, 60, 9, 8, 61, 62}
	was := slices.Clone(row)
	m := newGroup(t, row[:3], row[4:6])
	wantAdd(t, m, 20, api.OK)
	wantFail(t, m, 2, 1, api.OK)
	wantSwap(t, m, 2, 9, api.OK)
	wantAdd(t, m, 30, api.OK)
	if !slices.Equal(row, was) {
		t.Errorf("%v is now %v", was, row)
	}
	clear(row)
	wantGroup(t, m, 3, 1, []int{1, 9, 3}, []int{8, 20, 30})
	wantAdd(t, m, 40, api.OK)
	if slices.Max(row) > 0 {
		t.Errorf("%v stands where the lists were", row)
	}
}

// What is done to an answer, behind its end too, does not show, nor does what is done behind it change it.
func TestAnswersAreNewMemory(t *testing.T) {
	m := failed(t)
	wantAdd(t, m, 20, api.OK)
	for _, list := range []func() []int{m.Servers, m.Spares} {
		first, second := list(), list()
		was := slices.Clone(second)
		for i := range first[:cap(first)] {
			first[:cap(first)][i] = 50
		}
		if !slices.Equal(second, was) || !slices.Equal(list(), was) {
			t.Errorf("%v is now %v, and %v is told", was, second, list())
		}
	}
	servers, spares := m.Servers(), m.Spares()
	_ = append(spares, 70)
	wantAdd(t, m, 30, api.OK)
	wantSwap(t, m, 2, 9, api.OK)
	if !slices.Equal(servers, []int{1, 2, 3}) || !slices.Equal(spares, []int{9, 8, 20}) {
		t.Errorf("what was told is now %v and %v", servers, spares)
	}
	wantGroup(t, m, 3, 1, []int{1, 9, 3}, []int{8, 20, 30})
}

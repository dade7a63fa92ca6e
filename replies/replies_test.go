package replies_test

import (
	"encoding/binary"
	"fmt"
	"math"
	"slices"
	"strings"
	"testing"
	"unsafe"

	"hurdle/api"
	"hurdle/replies"
)

const (
	clients  = 64
	mostRoom = 16
	mostBody = 4096
	lastId   = 1<<31 - 1
)

func notClients() []int {
	return []int{math.MinInt, -64, -1, 64, 65, 255, 256, 257, 1 + 1<<32, math.MaxInt}
}

func notIds() []int {
	return []int{math.MinInt, -1 << 31, -5, -1, 1 << 31, 1<<31 + 5, 5 + 1<<32, math.MaxInt}
}

// lot gives numbers of many values, the same ones each time.
type lot uint64

func (l *lot) below(n int) int {
	*l = *l*6364136223846793005 + 1442695040888963407
	return int(uint64(*l)>>33) % n
}

func wantTake(t *testing.T, r *replies.Replies, client, id, want int, reply string) {
	t.Helper()
	if got, text := r.Take(client, id); got != want || text != reply {
		t.Errorf("Take(%d, %d): %d and %.40q, want %d and %.40q", client, id, got, text, want, reply)
	}
}

// wantFresh takes calls that were not seen yet.
func wantFresh(t *testing.T, r *replies.Replies, client int, ids ...int) {
	t.Helper()
	for _, id := range ids {
		wantTake(t, r, client, id, api.SeenFresh, "")
	}
}

func wantOld(t *testing.T, r *replies.Replies, client int, ids ...int) {
	t.Helper()
	for _, id := range ids {
		wantTake(t, r, client, id, api.SeenOld, "")
	}
}

func wantPut(t *testing.T, r *replies.Replies, client, id int, reply string, want bool) {
	t.Helper()
	if got := r.Put(client, id, reply); got != want {
		t.Errorf("Put(%d, %d, %.40q of %d): %v, want %v", client, id, reply, len(reply), got, want)
	}
}

func wantIds(t *testing.T, r *replies.Replies, client int, want ...int) {
	t.Helper()
	if got := r.Ids(client); !slices.Equal(got, want) {
		t.Errorf("Ids(%d): %v, want %v", client, got, want)
	}
}

func wantText(t *testing.T, r *replies.Replies, want string) {
	t.Helper()
	if got := r.Text(); got != want {
		t.Errorf("Text: %.80q of %d bytes, want %.80q of %d", got, len(got), want, len(want))
	}
}

// wantRead reads s, which is a text, and wants it back again.
func wantRead(t *testing.T, s string) *replies.Replies {
	t.Helper()
	r, err := replies.Read(s)
	if r == nil || err != api.OK {
		t.Fatalf("Read(%.80q of %d): error %d", s, len(s), err)
	}
	wantText(t, r, s)
	return r
}

func wantRefused(t *testing.T, s string) {
	t.Helper()
	if r, err := replies.Read(s); r != nil || err != api.ErrSyntax {
		t.Errorf("Read(%.80q of %d): %v and %d, want nil and ErrSyntax", s, len(s), r != nil, err)
	}
}

// num is n as chapter 3's int, which is what the library calls a varint.
func num(n int) string {
	return string(binary.AppendVarint(nil, int64(n)))
}

// one is a byte.
func one(n byte) string {
	return string([]byte{n})
}

func busyText(id int) string {
	return num(id) + "\x01"
}

func replyText(id int, reply string) string {
	return num(id) + "\x00" + num(len(reply)) + reply
}

// clientText is a client with its calls.
func clientText(client byte, calls ...string) string {
	return one(client) + num(len(calls)) + strings.Join(calls, "")
}

// allText is a room with its clients.
func allText(room byte, all ...string) string {
	return one(room) + num(len(all)) + strings.Join(all, "")
}

// upTo is the row of numbers from first on, count of them.
func upTo(first, count int) []int {
	var l []int
	for i := range count {
		l = append(l, first+i)
	}
	return l
}

func TestExample(t *testing.T) {
	r := replies.New(2)
	wantTake(t, r, 1, 5, api.SeenFresh, "")
	wantTake(t, r, 1, 5, api.SeenBusy, "")
}

func TestNewRoom(t *testing.T) {
	for _, c := range []struct{ given, room int }{
		{math.MinInt, 1}, {-1, 1}, {0, 1}, {1, 1}, {2, 2}, {7, 7}, {15, 15}, {16, 16}, {17, 16}, {257, 16}, {math.MaxInt, 16},
	} {
		r := replies.New(c.given)
		wantText(t, r, allText(byte(c.room)))
		wantFresh(t, r, 3, upTo(100, c.room)...)
		wantOld(t, r, 3, 99, 0)
		wantIds(t, r, 3, upTo(100, c.room)...)
		wantFresh(t, r, 3, 500)
		wantIds(t, r, 3, append(upTo(101, c.room-1), 500)...)
	}
}

// The room is each client's own.
func TestNewRoomOfEachClient(t *testing.T) {
	r := replies.New(2)
	for client := range clients {
		wantFresh(t, r, client, 5, 7)
	}
	for client := range clients {
		wantOld(t, r, client, 4)
		wantFresh(t, r, client, 8+client)
		wantIds(t, r, client, 7, 8+client)
	}
}

func TestTake(t *testing.T) {
	r := replies.New(4)
	wantFresh(t, r, 1, 5, 6)
	wantTake(t, r, 1, 5, api.SeenBusy, "")
	wantPut(t, r, 1, 5, "x\x00\xff", true)
	for range 3 {
		wantTake(t, r, 1, 5, api.SeenAgain, "x\x00\xff")
		wantTake(t, r, 1, 6, api.SeenBusy, "")
	}
	wantPut(t, r, 1, 6, "", true)
	for range 3 {
		wantTake(t, r, 1, 6, api.SeenAgain, "")
	}
	wantTake(t, r, 2, 5, api.SeenFresh, "")
	wantTake(t, r, 1, 5, api.SeenAgain, "x\x00\xff")
	wantIds(t, r, 1, 5, 6)
	wantIds(t, r, 2, 5)
}

// While there is room, one below all others is fresh; then it is old, and nothing is kept of it.
func TestTakeOld(t *testing.T) {
	r := replies.New(3)
	wantFresh(t, r, 1, 50, 40, 30)
	for range 3 {
		wantOld(t, r, 1, 29, 0, 10)
	}
	wantIds(t, r, 1, 30, 40, 50)
	wantPut(t, r, 1, 29, "", false)
	wantTake(t, r, 1, 30, api.SeenBusy, "")
	wantFresh(t, r, 1, 31)
	wantOld(t, r, 1, 30)
	wantIds(t, r, 1, 31, 40, 50)
	wantFresh(t, r, 1, 45)
	wantIds(t, r, 1, 40, 45, 50)
	wantOld(t, r, 1, 31, 30, 39)
	wantFresh(t, r, 1, 60)
	wantIds(t, r, 1, 45, 50, 60)
	wantOld(t, r, 1, 44, 40)
}

func TestTakeWithRoomForOne(t *testing.T) {
	r := replies.New(1)
	wantFresh(t, r, 1, 5)
	wantTake(t, r, 1, 5, api.SeenBusy, "")
	wantOld(t, r, 1, 4)
	wantPut(t, r, 1, 5, "a", true)
	wantTake(t, r, 1, 5, api.SeenAgain, "a")
	wantOld(t, r, 1, 4)
	wantFresh(t, r, 1, 6)
	wantIds(t, r, 1, 6)
	wantOld(t, r, 1, 5)
	wantTake(t, r, 1, 6, api.SeenBusy, "")
}

// That of the least number goes, busy or not, whenever it was taken.
func TestTakeLetsTheLeastGo(t *testing.T) {
	r := replies.New(3)
	wantFresh(t, r, 1, 30, 10, 20)
	wantPut(t, r, 1, 20, "a", true)
	wantPut(t, r, 1, 30, "b", true)
	wantFresh(t, r, 1, 25)
	wantIds(t, r, 1, 20, 25, 30)
	wantPut(t, r, 1, 10, "late", false)
	wantTake(t, r, 1, 20, api.SeenAgain, "a")
	wantTake(t, r, 1, 25, api.SeenBusy, "")
	wantTake(t, r, 1, 30, api.SeenAgain, "b")
	wantFresh(t, r, 1, 40)
	wantIds(t, r, 1, 25, 30, 40)
	wantOld(t, r, 1, 20)
	wantPut(t, r, 1, 25, "c", true)
	wantTake(t, r, 1, 25, api.SeenAgain, "c")
	wantTake(t, r, 1, 30, api.SeenAgain, "b")
	wantTake(t, r, 1, 40, api.SeenBusy, "")
}

// One that is seen again stays as it is: no other goes for it, even where there is no room.
func TestTakeAgainLetsNoneGo(t *testing.T) {
	r := replies.New(2)
	wantFresh(t, r, 1, 5, 7)
	wantPut(t, r, 1, 7, "x", true)
	for range 5 {
		wantTake(t, r, 1, 5, api.SeenBusy, "")
		wantTake(t, r, 1, 7, api.SeenAgain, "x")
		wantOld(t, r, 1, 4)
	}
	wantText(t, r, allText(2, clientText(1, busyText(5), replyText(7, "x"))))
}

func TestTakeAtTheEdges(t *testing.T) {
	r := replies.New(2)
	for _, client := range []int{0, 63} {
		for _, id := range []int{0, lastId} {
			wantFresh(t, r, client, id)
			wantTake(t, r, client, id, api.SeenBusy, "")
			wantPut(t, r, client, id, "r", true)
			wantTake(t, r, client, id, api.SeenAgain, "r")
		}
		wantIds(t, r, client, 0, lastId)
		wantFresh(t, r, client, lastId-1)
		wantIds(t, r, client, lastId-1, lastId)
		wantOld(t, r, client, 0, lastId-2)
	}
}

func TestTakeRefuses(t *testing.T) {
	r := replies.New(1)
	wantFresh(t, r, 1, 5)
	wantPut(t, r, 1, 5, "x", true)
	before := r.Text()
	for _, client := range notClients() {
		for _, id := range append(notIds(), 0, 5, 6, lastId) {
			wantTake(t, r, client, id, 0, "")
		}
	}
	for _, id := range notIds() {
		wantTake(t, r, 0, id, 0, "")
		wantTake(t, r, 1, id, 0, "")
		wantTake(t, r, 63, id, 0, "")
	}
	wantText(t, r, before)
}

func TestPut(t *testing.T) {
	r := replies.New(4)
	wantFresh(t, r, 1, 5, 6)
	wantFresh(t, r, 2, 5)
	wantPut(t, r, 1, 5, "x", true)
	// The first reply stays.
	wantPut(t, r, 1, 5, "y", false)
	wantPut(t, r, 1, 5, "x", false)
	wantPut(t, r, 1, 5, "", false)
	wantTake(t, r, 1, 5, api.SeenAgain, "x")
	wantTake(t, r, 1, 6, api.SeenBusy, "")
	wantTake(t, r, 2, 5, api.SeenBusy, "")
	// An empty one is a reply as well.
	wantPut(t, r, 2, 5, "", true)
	wantPut(t, r, 2, 5, "z", false)
	wantTake(t, r, 2, 5, api.SeenAgain, "")
}

func TestPutOfLongReplies(t *testing.T) {
	r := replies.New(2)
	most := strings.Repeat("r", mostBody)
	wantFresh(t, r, 1, 5)
	for _, n := range []int{mostBody + 1, mostBody + 2, 1 << 16, 1 << 20} {
		wantPut(t, r, 1, 5, strings.Repeat("r", n), false)
		wantTake(t, r, 1, 5, api.SeenBusy, "")
	}
	wantPut(t, r, 1, 5, most, true)
	wantTake(t, r, 1, 5, api.SeenAgain, most)
}

func TestPutRefuses(t *testing.T) {
	r := replies.New(2)
	wantPut(t, r, 1, 5, "x", false)
	wantFresh(t, r, 1, 5, 7)
	wantFresh(t, r, 1, 9)
	before := r.Text()
	for _, id := range []int{5, 6, 8, 10, 0, lastId} {
		wantPut(t, r, 1, id, "x", false)
	}
	for _, id := range notIds() {
		wantPut(t, r, 1, id, "x", false)
	}
	for _, client := range append(notClients(), 0, 2, 63) {
		for _, id := range append(notIds(), 0, 7, 9) {
			wantPut(t, r, client, id, "x", false)
		}
	}
	wantText(t, r, before)
	wantPut(t, r, 1, 7, "x", true)
}

func TestIds(t *testing.T) {
	r := replies.New(5)
	for client := range clients {
		wantIds(t, r, client)
	}
	wantFresh(t, r, 1, 50, 10, 40, 0, lastId)
	wantIds(t, r, 1, 0, 10, 40, 50, lastId)
	wantPut(t, r, 1, 40, "x", true)
	wantIds(t, r, 1, 0, 10, 40, 50, lastId)
	wantFresh(t, r, 1, 30)
	wantIds(t, r, 1, 10, 30, 40, 50, lastId)
	wantIds(t, r, 0)
	wantIds(t, r, 2)
	for _, client := range notClients() {
		wantIds(t, r, client)
	}
}

func TestText(t *testing.T) {
	wantText(t, replies.New(3), "\x03\x00")
	r := replies.New(2)
	wantFresh(t, r, 9, 200)
	wantFresh(t, r, 1, 7, 5)
	wantPut(t, r, 1, 5, "abc", true)
	wantText(t, r, "\x02\x04"+"\x01\x04"+"\x0a\x00\x06abc"+"\x0e\x01"+"\x09\x02"+"\x90\x03\x01")
	wantPut(t, r, 9, 200, "", true)
	wantText(t, r, "\x02\x04"+"\x01\x04"+"\x0a\x00\x06abc"+"\x0e\x01"+"\x09\x02"+"\x90\x03\x00\x00")
}

// Clients stand rising however they came, and the same is told each time.
func TestTextIsRising(t *testing.T) {
	var parts []string
	for client := range clients {
		parts = append(parts, clientText(byte(client), busyText(client), busyText(lastId-client)))
	}
	want := allText(16, parts...)
	for round := range 8 {
		r := replies.New(16)
		for i := range clients {
			client := (i*37 + round*11) % clients
			wantFresh(t, r, client, lastId-client, client)
		}
		for range 8 {
			wantText(t, r, want)
		}
	}
}

// What is kept may be far longer than MaxBytes: all of it is told, and read.
func TestTextOfAllThatMayBeKept(t *testing.T) {
	r := replies.New(mostRoom)
	var parts []string
	for client := range clients {
		var calls []string
		for i := range mostRoom {
			id, reply := lastId-mostRoom+1+i, strings.Repeat(one(byte(client+i)), mostBody)
			wantFresh(t, r, client, id)
			wantPut(t, r, client, id, reply, true)
			calls = append(calls, replyText(id, reply))
		}
		parts = append(parts, clientText(byte(client), calls...))
	}
	want := allText(mostRoom, parts...)
	if len(want) <= clients*mostRoom*mostBody {
		t.Fatalf("%d bytes are too few to tell", len(want))
	}
	wantText(t, r, want)
	back := wantRead(t, want)
	for client := range clients {
		wantOld(t, back, client, lastId-mostRoom)
		wantTake(t, back, client, lastId, api.SeenAgain, strings.Repeat(one(byte(client+mostRoom-1)), mostBody))
	}
}

// One just about as long as a writer of chapter 3 takes.
func TestTextAboutMaxBytes(t *testing.T) {
	for _, last := range []int{mostBody - 64, mostBody - 40, mostBody - 33, mostBody - 32, mostBody - 31, mostBody} {
		r := replies.New(mostRoom)
		var calls []string
		for id := range mostRoom {
			reply := strings.Repeat("m", mostBody)
			if id == mostRoom-1 {
				reply = reply[:last]
			}
			wantFresh(t, r, 0, id)
			wantPut(t, r, 0, id, reply, true)
			calls = append(calls, replyText(id, reply))
		}
		want := allText(mostRoom, clientText(0, calls...))
		wantText(t, r, want)
		wantRead(t, want)
	}
}

// What is read goes on as what was told.
func TestRead(t *testing.T) {
	r := replies.New(3)
	wantFresh(t, r, 63, 30, 10, 20)
	wantFresh(t, r, 0, 5)
	wantPut(t, r, 63, 20, "x", true)
	wantPut(t, r, 0, 5, "", true)
	back := wantRead(t, r.Text())
	for _, one := range []*replies.Replies{back, r} {
		wantIds(t, one, 63, 10, 20, 30)
		wantIds(t, one, 0, 5)
		wantIds(t, one, 1)
		wantTake(t, one, 63, 20, api.SeenAgain, "x")
		wantTake(t, one, 63, 10, api.SeenBusy, "")
		wantTake(t, one, 0, 5, api.SeenAgain, "")
		wantPut(t, one, 63, 20, "z", false)
		wantPut(t, one, 63, 10, "y", true)
		wantTake(t, one, 63, 10, api.SeenAgain, "y")
		wantOld(t, one, 63, 9)
		wantFresh(t, one, 63, 40)
		wantIds(t, one, 63, 20, 30, 40)
		wantFresh(t, one, 0, 4)
		wantFresh(t, one, 7, 1)
		wantPut(t, one, 7, 1, strings.Repeat("r", mostBody), true)
	}
	wantText(t, back, r.Text())
}

func TestReadTakesWhatMayBe(t *testing.T) {
	most := strings.Repeat("m", mostBody)
	for room := range byte(mostRoom) {
		wantRead(t, allText(room+1))
		var calls []string
		for id := range int(room) + 1 {
			calls = append(calls, busyText(id))
			wantRead(t, allText(room+1, clientText(63, calls...)))
		}
	}
	for _, s := range []string{
		allText(1, clientText(0, busyText(0))),
		allText(1, clientText(63, busyText(lastId))),
		allText(1, clientText(5, replyText(0, ""))),
		allText(1, clientText(5, replyText(lastId, most))),
		allText(2, clientText(5, busyText(0), replyText(lastId, "x"))),
		allText(2, clientText(0, replyText(3, "x")), clientText(1, busyText(2)), clientText(63, busyText(1))),
	} {
		wantRead(t, s)
	}
}

func TestReadRefuses(t *testing.T) {
	var all, many []string
	for client := range clients + 1 {
		all = append(all, clientText(byte(client), busyText(1)))
	}
	for id := range mostRoom + 1 {
		many = append(many, busyText(id))
	}
	wantRead(t, allText(1, all[:clients]...))
	wantRead(t, allText(mostRoom, clientText(1, many[:mostRoom]...)))
	for _, s := range []string{
		"", "\x00", "\x01", "\x02", "\x00\x00", "\x11\x00", "\x12\x00", "\xff\x00", "\x81\x00",
		allText(0, clientText(1, busyText(1))),
		allText(17, clientText(1, busyText(1))),
		// How many clients.
		"\x01" + num(-1), "\x01" + num(1), "\x01" + num(64), "\x01" + num(65), "\x01" + num(math.MaxInt), "\x01" + num(math.MinInt),
		"\x01\x80\x00", "\x01\x02", "\x01\xff\xff\xff\xff\xff\xff\xff\xff\xff\x02",
		"\x01" + num(0) + clientText(1, busyText(1)),
		"\x01" + num(1) + clientText(1, busyText(1)) + clientText(2, busyText(1)),
		"\x01" + num(2) + clientText(1, busyText(1)),
		allText(1, all...),
		// Which clients.
		allText(1, clientText(64, busyText(1))),
		allText(1, clientText(65, busyText(1))),
		allText(1, clientText(255, busyText(1))),
		allText(1, clientText(1, busyText(1)), clientText(1, busyText(1))),
		allText(1, clientText(1, busyText(1)), clientText(1, busyText(2))),
		allText(1, clientText(1, busyText(1)), clientText(0, busyText(1))),
		allText(1, clientText(3, busyText(1)), clientText(5, busyText(1)), clientText(4, busyText(1))),
		// How many calls.
		allText(1, clientText(1)),
		allText(2, clientText(1), clientText(2, busyText(1))),
		allText(1, clientText(1, busyText(1), busyText(2))),
		allText(2, clientText(1, busyText(1), busyText(2), busyText(3))),
		allText(mostRoom, clientText(1, many...)),
		allText(1, one(1)+num(-1)+busyText(1)),
		allText(2, one(1)+num(-2)+busyText(1)+busyText(2)),
		allText(2, one(1)+num(2)+busyText(1)),
		allText(2, one(1)+num(1)+busyText(1)+busyText(2)),
		allText(1, one(1)+num(math.MaxInt)+busyText(1)),
		allText(1, one(1)+"\x82\x00"+busyText(1)),
		allText(1, one(1)),
		// Which calls.
		allText(1, clientText(1, busyText(-1))),
		allText(1, clientText(1, busyText(math.MinInt))),
		allText(1, clientText(1, busyText(lastId+1))),
		allText(1, clientText(1, busyText(5+1<<32))),
		allText(1, clientText(1, busyText(math.MaxInt))),
		allText(1, clientText(1, "\x8a\x00\x01")),
		allText(2, clientText(1, busyText(-1), busyText(0))),
		allText(2, clientText(1, busyText(5), busyText(5))),
		allText(2, clientText(1, busyText(5), replyText(5, "x"))),
		allText(2, clientText(1, busyText(5), busyText(4))),
		allText(3, clientText(1, busyText(3), busyText(5), busyText(4))),
		// What they have.
		allText(1, clientText(1, num(1))),
		allText(1, clientText(1, num(1)+"\x02")),
		allText(1, clientText(1, num(1)+"\x02\x00")),
		allText(1, clientText(1, num(1)+"\xff")),
		allText(1, clientText(1, num(1)+"\x81\x00")),
		allText(1, clientText(1, num(1)+"\x01\x00")),
		allText(1, clientText(1, num(1)+"\x01\x02x")),
		allText(1, clientText(1, num(1)+"\x00")),
		allText(1, clientText(1, num(1)+"\x00"+num(-1))),
		allText(1, clientText(1, num(1)+"\x00"+num(2)+"x")),
		allText(1, clientText(1, num(1)+"\x00"+num(1)+"xy")),
		allText(1, clientText(1, num(1)+"\x00\x82\x00x")),
		allText(1, clientText(1, num(1)+"\x00"+num(math.MaxInt)+"x")),
		allText(1, clientText(1, replyText(1, strings.Repeat("m", mostBody+1)))),
		allText(1, clientText(1, replyText(1, strings.Repeat("m", 1<<17)))),
		allText(1, clientText(1, busyText(1))) + "\x00",
		"\x01\x00\x00",
	} {
		wantRefused(t, s)
	}
}

// shortText is one with all that a text may have.
func shortText() string {
	return allText(3,
		clientText(0, busyText(0), replyText(1, ""), busyText(lastId)),
		clientText(7, replyText(5, "ab"), replyText(300, "\x00\x01")),
		clientText(63, busyText(70)))
}

// No beginning of a text is one, nor a text with more behind it.
func TestReadRefusesPieces(t *testing.T) {
	s := shortText()
	wantRead(t, s)
	for n := range len(s) {
		wantRefused(t, s[:n])
	}
	for n := range 256 {
		wantRefused(t, s+one(byte(n)))
	}
}

// Whatever bytes: they are refused, or what is read is written just so.
func TestReadOfChangedTexts(t *testing.T) {
	s := shortText()
	taken, refused := 0, 0
	look := func(s string) {
		t.Helper()
		r, err := replies.Read(s)
		switch {
		case err == api.OK && r != nil:
			taken++
			wantText(t, r, s)
		case err == api.ErrSyntax && r == nil:
			refused++
		default:
			t.Errorf("Read(%q): %v and %d", s, r != nil, err)
		}
	}
	for at := range len(s) {
		for n := range 256 {
			look(s[:at] + one(byte(n)) + s[at+1:])
		}
	}
	for a := range 256 {
		look(one(byte(a)))
		for b := range 256 {
			look(one(byte(a)) + one(byte(b)))
		}
	}
	l := lot(15)
	for range 20000 {
		bytes := make([]byte, l.below(14))
		for i := range bytes {
			bytes[i] = byte(l.below(5))
		}
		look(string(bytes))
	}
	if taken < 500 || refused < 500 {
		t.Errorf("%d are taken, %d refused: too few to tell", taken, refused)
	}
}

func TestNil(t *testing.T) {
	var r *replies.Replies
	wantTake(t, r, 1, 5, 0, "")
	wantPut(t, r, 1, 5, "x", false)
	wantIds(t, r, 1)
	wantText(t, r, "")
}

func TestRepliesAreApart(t *testing.T) {
	a := replies.New(2)
	wantFresh(t, a, 1, 5)
	b, c := replies.New(2), wantRead(t, a.Text())
	wantText(t, b, allText(2))
	wantFresh(t, b, 1, 5)
	wantPut(t, c, 1, 5, "c", true)
	wantPut(t, b, 1, 5, "b", true)
	wantTake(t, a, 1, 5, api.SeenBusy, "")
	wantTake(t, b, 1, 5, api.SeenAgain, "b")
	wantTake(t, c, 1, 5, api.SeenAgain, "c")
}

// Texts that are equal do not tell whether they share memory; where they stand does.
func shares(a, b string) bool {
	from, to := uintptr(unsafe.Pointer(unsafe.StringData(a))), uintptr(unsafe.Pointer(unsafe.StringData(b)))
	return a != "" && b != "" && from < to+uintptr(len(b)) && to < from+uintptr(len(a))
}

func TestAnswersAreNewMemory(t *testing.T) {
	r := replies.New(2)
	reply := strings.Clone("a reply")
	wantFresh(t, r, 1, 5, 7)
	wantPut(t, r, 1, 5, reply, true)
	_, first := r.Take(1, 5)
	_, second := r.Take(1, 5)
	if shares(first, reply) || shares(first, second) {
		t.Error("the replies share memory")
	}
	ids := r.Ids(1)
	ids[0] = 99
	wantIds(t, r, 1, 5, 7)
	if shares(r.Text(), r.Text()) {
		t.Error("the texts share memory")
	}
	s := r.Text()
	_, read := wantRead(t, s).Take(1, 5)
	if read != reply || shares(read, s) {
		t.Error("what is read shares memory with the text")
	}
}

// plain is the replies with the chapter's words done one at a time.
type plain struct {
	room int
	all  [clients]map[int]*plainCall
}

type plainCall struct {
	busy  bool
	reply string
}

func newPlain(room int) *plain {
	p := &plain{room: room}
	for client := range p.all {
		p.all[client] = map[int]*plainCall{}
	}
	return p
}

func (p *plain) ids(client int) []int {
	var ids []int
	for id := range p.all[client] {
		ids = append(ids, id)
	}
	slices.Sort(ids)
	return ids
}

func (p *plain) take(client, id int) (int, string) {
	if client < 0 || client > 63 || id < 0 || id > lastId {
		return 0, ""
	}
	if c := p.all[client][id]; c != nil && !c.busy {
		return api.SeenAgain, c.reply
	} else if c != nil {
		return api.SeenBusy, ""
	}
	ids := p.ids(client)
	if len(ids) == p.room && id < ids[0] {
		return api.SeenOld, ""
	}
	if len(ids) == p.room {
		delete(p.all[client], ids[0])
	}
	p.all[client][id] = &plainCall{busy: true}
	return api.SeenFresh, ""
}

func (p *plain) put(client, id int, reply string) bool {
	if client < 0 || client > 63 || len(reply) > mostBody {
		return false
	}
	c := p.all[client][id]
	if c == nil || !c.busy {
		return false
	}
	*c = plainCall{reply: reply}
	return true
}

func (p *plain) text() string {
	var parts []string
	for client := range p.all {
		var calls []string
		for _, id := range p.ids(client) {
			if c := p.all[client][id]; c.busy {
				calls = append(calls, busyText(id))
			} else {
				calls = append(calls, replyText(id, c.reply))
			}
		}
		if len(calls) > 0 {
			parts = append(parts, clientText(byte(client), calls...))
		}
	}
	return allText(byte(p.room), parts...)
}

// step does one thing to both, and tells what a call was seen as.
func step(t *testing.T, l *lot, r *replies.Replies, p *plain, now int) int {
	t.Helper()
	client := []int{0, 1, 2, 17, 62, 63, 64, -1}[l.below(8)]
	id := now + l.below(60) - 45
	if client >= 0 && client < clients && len(p.all[client]) > 0 && l.below(3) > 0 { // one that is kept
		ids := p.ids(client)
		id = ids[l.below(len(ids))]
	}
	if l.below(3) == 0 {
		reply := fmt.Sprint("reply ", now)
		if l.below(20) == 0 {
			reply = strings.Repeat("r", mostBody+l.below(2))
		}
		wantPut(t, r, client, id, reply, p.put(client, id, reply))
		return 0
	}
	seen, reply := p.take(client, id)
	wantTake(t, r, client, id, seen, reply)
	if client >= 0 && client < clients {
		wantIds(t, r, client, p.ids(client)...)
	}
	return seen
}

func TestAgainstPlain(t *testing.T) {
	var count [5]int
	for round := range 32 {
		l := lot(150 + round)
		room := round%mostRoom + 1
		r, p := replies.New(room), newPlain(room)
		for now := range 1500 {
			count[step(t, &l, r, p, now/(4+8*(round%4)))]++
			if now%50 == 0 { // what is read goes on in the place of what was told
				wantText(t, r, p.text())
				r = wantRead(t, p.text())
			}
			if t.Failed() {
				t.Fatalf("round %d, step %d", round, now)
			}
		}
		wantText(t, r, p.text())
	}
	for seen, n := range count {
		if n < 500 {
			t.Errorf("%d was told %d times: too seldom to tell", seen, n)
		}
	}
}

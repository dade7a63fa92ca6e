package replies

import (
	"strings"
	"testing"
	"unsafe"
)

// What is handed in is not kept: no answer tells it, but where the texts stand does.
func TestRepliesAreNotKeptAsTheyCame(t *testing.T) {
	r := New(2)
	reply := strings.Clone("a reply")
	r.Take(1, 5)
	r.Put(1, 5, reply)
	if kept := r.kept[1][0].reply; kept != reply || unsafe.StringData(kept) == unsafe.StringData(reply) {
		t.Errorf("%q is kept as it came", kept)
	}
}

// Nothing is kept for a client whose calls are refused, or only asked for.
func TestNothingIsKeptOfWhatIsRefused(t *testing.T) {
	r := New(2)
	for _, client := range []int{-1, 0, 63, 64} {
		r.Take(client, -1)
		r.Put(client, 5, "x")
		r.Ids(client)
		r.Text()
	}
	r.Take(-1, 5)
	r.Take(64, 5)
	if len(r.kept) != 0 {
		t.Errorf("of %d clients something is kept", len(r.kept))
	}
}

// However many calls there were, the room that they take does not grow, and of those that went nothing is left.
func TestNothingIsLeft(t *testing.T) {
	r := New(mostRoom)
	for id := range 10000 {
		r.Take(1, id)
		r.Put(1, id, "a reply")
	}
	kept := r.kept[1]
	if len(r.kept) != 1 || len(kept) != mostRoom || cap(kept) > 4*mostRoom {
		t.Fatalf("%d are kept in a room for %d", len(kept), cap(kept))
	}
	for _, c := range kept[:cap(kept)] {
		if c.id != 0 && c.id < 10000-mostRoom {
			t.Errorf("call %d is left", c.id)
		}
	}
}

package calls

import (
	"strings"
	"testing"
	"unsafe"

	"hurdle/api"
)

// The numbers end so far behind the greatest first one that no test calls till there: this one begins shortly ahead.
func TestNumbersEnd(t *testing.T) {
	c := New(0, 1<<30)
	c.next = 1<<31 - 3
	for _, want := range []int{1<<31 - 3, 1<<31 - 2} {
		if id, err := c.Call(1, "", 0); id != want || err != api.OK {
			t.Errorf("Call: %d and %d, want %d and OK", id, err, want)
		}
	}
	c.Answer(api.Message{Kind: api.KindReply, From: 1, Id: 1<<31 - 3})
	c.Forget(1<<31 - 3)
	for range 3 {
		if id, err := c.Call(1, "", 0); id != 0 || err != api.ErrFull {
			t.Errorf("Call behind the last number: %d and %d, want ErrFull", id, err)
		}
	}
	if _, err := c.Call(-1, "", 0); err != api.ErrArg {
		t.Errorf("Call of no node behind the last number: %d, want ErrArg", err)
	}
	if l := c.Open(); len(l) != 1 || l[0] != 1<<31-2 {
		t.Errorf("open are %v", l)
	}
	if l := c.Due(0); len(l) != 1 || l[0].Id != 1<<31-2 {
		t.Errorf("due are %v", l)
	}
}

// What is handed in is not kept: no answer tells it, but where the texts stand does.
func TestTextsAreNotKept(t *testing.T) {
	c := New(2, 7)
	body, answer := strings.Clone("a body"), strings.Clone("an answer")
	c.Call(3, body, 0)
	if kept := c.open[0].body; kept != body || unsafe.StringData(kept) == unsafe.StringData(body) {
		t.Errorf("%q is kept as it came", kept)
	}
	c.Answer(api.Message{Kind: api.KindReply, From: 3, To: 2, Id: 7, Body: answer})
	if kept := c.ended[7].answer; kept != answer || unsafe.StringData(kept) == unsafe.StringData(answer) {
		t.Errorf("%q is kept as it came", kept)
	}
}

// Of a call that is forgotten nothing is left, and no room grows with how many there were.
func TestNothingIsLeft(t *testing.T) {
	c := New(2, 0)
	for id := range 1000 {
		c.Call(3, "a body", 0)
		c.Answer(api.Message{Kind: api.KindReply, From: 3, To: 2, Id: id})
		c.Forget(id)
	}
	if len(c.open) != 0 || len(c.ended) != 0 || c.due.Len() != 0 || cap(c.open) > api.MaxOpen {
		t.Errorf("%d are open, %d ended, %d due", len(c.open), len(c.ended), c.due.Len())
	}
}

package durable_test

import (
	"encoding/binary"
	"fmt"
	"hash/crc32"
	"math"
	"slices"
	"strings"
	"testing"
	"unsafe"

	"hurdle/api"
	"hurdle/durable"
	"hurdle/sector"
)

const (
	wide     = 64 // bytes of a sector
	ahead    = 8  // sectors ahead of the areas
	lastN    = 1<<31 - 1
	maxLog   = 1024
	mostBody = 4096
	all      = -1
	steps    = 3 // of a Compact
)

func bal(n, node int) api.Ballot { return api.Ballot{N: n, Node: node} }

func vote(slot, n, node int, value string) api.Vote {
	return api.Vote{Slot: slot, Ballot: bal(n, node), Value: value}
}

// lot gives numbers of many values, the same ones each time.
type lot uint64

func (l *lot) below(n int) int {
	*l = *l*6364136223846793005 + 1442695040888963407
	return int(uint64(*l)>>33) % n
}

func many(n int) string { return strings.Repeat("x", n) }

func zeros(n int) string { return strings.Repeat("\x00", n) }

// The form of what stands on a device, put together here by other means than the program's.

func ints(l ...int) string {
	var b []byte
	for _, n := range l {
		b = binary.AppendVarint(b, int64(n))
	}
	return string(b)
}

func sealed(s string) string {
	return string(binary.LittleEndian.AppendUint32([]byte(s), crc32.ChecksumIEEE([]byte(s))))
}

func textOf(s string) string { return ints(len(s)) + s }

// filled is s with bytes 0 to whole sectors.
func filled(s string) string { return s + zeros((wide-len(s)%wide)%wide) }

// recordOf is the record with that body.
func recordOf(body string) string { return filled(textOf(sealed(body))) }

func promiseBody(epoch, number int, b api.Ballot) string {
	return ints(epoch, number) + "\x01" + ints(b.N, b.Node)
}

func voteBody(epoch, number int, v api.Vote) string {
	return ints(epoch, number) + "\x02" + ints(v.Slot, v.Ballot.N, v.Ballot.Node) + textOf(v.Value)
}

func trimBody(epoch, number, upto int) string {
	return ints(epoch, number) + "\x03" + ints(upto)
}

func promised(epoch, number int, b api.Ballot) string {
	return recordOf(promiseBody(epoch, number, b))
}

func voted(epoch, number int, v api.Vote) string { return recordOf(voteBody(epoch, number, v)) }

func trimmed(epoch, number, upto int) string { return recordOf(trimBody(epoch, number, upto)) }

// stateAt lets body be the state of that generation on d.
func stateAt(t *testing.T, d *sector.Device, body string, generation int) {
	t.Helper()
	b := binary.LittleEndian.AppendUint32(nil, uint32(generation))
	b = binary.LittleEndian.AppendUint32(b, uint32(len(body)))
	b = append(b, body...)
	lay(t, d, generation%2*4, sealed(string(b)+zeros(252-len(b))))
}

func lay(t *testing.T, d *sector.Device, at int, s string) {
	t.Helper()
	if s == "" {
		return
	}
	if err := d.Write(at, s); err != api.OK {
		t.Fatalf("%d bytes at sector %d are refused: %d", len(s), at, err)
	}
	d.Flush()
}

// laid is a device with these records from area 0's first sector on, and no state.
func laid(t *testing.T, sectors int, records ...string) *sector.Device {
	t.Helper()
	d := sector.New(sectors)
	lay(t, d, ahead, strings.Join(records, ""))
	return d
}

// picture is all that a device holds.
func picture(t *testing.T, d *sector.Device) string {
	t.Helper()
	s, err := d.Read(0, d.Sectors())
	if err != api.OK {
		t.Fatalf("the device tells %d", err)
	}
	return s
}

func opened(t *testing.T, d *sector.Device) *durable.Durable {
	t.Helper()
	a, err := durable.Open(d)
	if a == nil || err != api.OK {
		t.Fatalf("Open: nothing, and %d", err)
	}
	return a
}

// brief tells votes without their long values.
func brief(l []api.Vote) string {
	var parts []string
	for _, v := range l {
		if len(v.Value) > 20 {
			v.Value = fmt.Sprint(len(v.Value), " bytes")
		}
		parts = append(parts, fmt.Sprintf("%d by %d.%d: %q", v.Slot, v.Ballot.N, v.Ballot.Node, v.Value))
	}
	return "[" + strings.Join(parts, ", ") + "]"
}

func wantPromise(t *testing.T, a *durable.Durable, b api.Ballot, from int, want ...api.Vote) {
	t.Helper()
	got, ok, err := a.Promise(b, from)
	if !ok || err != api.OK || !slices.Equal(got, want) {
		t.Errorf("Promise(%v, %d): %s, %v, %d, want %s, true", b, from, brief(got), ok, err, brief(want))
	}
	if p := a.Promised(); p != b {
		t.Errorf("%v is promised, behind Promise of %v", p, b)
	}
}

// wantNoPromise is for one that answers false, or the error.
func wantNoPromise(t *testing.T, a *durable.Durable, b api.Ballot, from int, want api.Errno) {
	t.Helper()
	if got, ok, err := a.Promise(b, from); ok || len(got) > 0 || err != want {
		t.Errorf("Promise(%v, %d): %s, %v, %d, want nothing, false and %d", b, from, brief(got), ok, err, want)
	}
}

func wantAccept(t *testing.T, a *durable.Durable, all ...api.Vote) {
	t.Helper()
	for _, v := range all {
		if ok, err := a.Accept(v); !ok || err != api.OK {
			t.Errorf("Accept of %s: %v and %d, want true", brief([]api.Vote{v}), ok, err)
		}
		if p := a.Promised(); p != v.Ballot {
			t.Errorf("%v is promised, behind Accept of %s", p, brief([]api.Vote{v}))
		}
	}
}

// wantNoAccept is for one that answers false, or the error.
func wantNoAccept(t *testing.T, a *durable.Durable, v api.Vote, want api.Errno) {
	t.Helper()
	if ok, err := a.Accept(v); ok || err != want {
		t.Errorf("Accept of %s: %v and %d, want false and %d", brief([]api.Vote{v}), ok, err, want)
	}
}

func wantTrim(t *testing.T, a *durable.Durable, upto int, want api.Errno) {
	t.Helper()
	if err := a.Trim(upto); err != want {
		t.Errorf("Trim(%d): %d, want %d", upto, err, want)
	}
}

func wantCompact(t *testing.T, a *durable.Durable, steps int, want api.Errno) {
	t.Helper()
	if err := a.Compact(steps); err != want {
		t.Errorf("Compact(%d): %d, want %d", steps, err, want)
	}
}

func wantState(t *testing.T, what string, a *durable.Durable, p api.Ballot, base, room int, votes ...api.Vote) {
	t.Helper()
	if got := a.Promised(); got != p {
		t.Errorf("%s: Promised: %v, want %v", what, got, p)
	}
	if got := a.Base(); got != base {
		t.Errorf("%s: Base: %d, want %d", what, got, base)
	}
	if got := a.Room(); got != room {
		t.Errorf("%s: Room: %d, want %d", what, got, room)
	}
	if got := a.Votes(0); !slices.Equal(got, votes) {
		t.Errorf("%s: Votes: %s, want %s", what, brief(got), brief(votes))
	}
}

// wantSame is for what changes nothing of a, and nothing on its device.
func wantSame(t *testing.T, what string, d *sector.Device, a *durable.Durable, do func()) {
	t.Helper()
	was, p, base, room, votes := picture(t, d), a.Promised(), a.Base(), a.Room(), a.Votes(0)
	do()
	wantState(t, what, a, p, base, room, votes...)
	if picture(t, d) != was {
		t.Errorf("%s: the device is another one", what)
	}
	if l := d.Loose(); len(l) > 0 {
		t.Errorf("%s: sectors %v are loose", what, l)
	}
}

// wantArea is for what stands on a device: in an area these records, and bytes 0 to its end.
func wantArea(t *testing.T, what string, d *sector.Device, area int, records ...string) {
	t.Helper()
	width := (d.Sectors() - ahead) / 2
	got := picture(t, d)[(ahead+area*width)*wide:][:width*wide]
	want := strings.Join(records, "")
	want += zeros(width*wide - len(want))
	for i := range width {
		if g, w := got[i*wide:][:wide], want[i*wide:][:wide]; g != w {
			t.Errorf("%s: sector %d of area %d: %q, want %q", what, i, area, g, w)
			return
		}
	}
}

func wantCut(t *testing.T, a *durable.Durable) {
	t.Helper()
	p := a.Promised()
	wantNoPromise(t, a, bal(lastN, 6), maxLog, api.ErrState)
	wantNoPromise(t, a, p, a.Base(), api.ErrState)   // would change nothing
	wantNoPromise(t, a, bal(-1, 0), 0, api.ErrState) // would be false
	wantNoAccept(t, a, vote(maxLog-1, lastN, 6, "new"), api.ErrState)
	wantNoAccept(t, a, vote(maxLog, -1, 0, many(mostBody+1)), api.ErrState)
	wantTrim(t, a, maxLog, api.ErrState)
	wantTrim(t, a, 0, api.ErrState)
	for _, n := range []int{all, 0, 1, 2, steps, steps + 1, math.MinInt, math.MaxInt} {
		wantCompact(t, a, n, api.ErrState)
	}
}

func TestExample(t *testing.T) {
	d := sector.New(30)
	v := vote(2, 1, 0, "x")
	wantAccept(t, opened(t, d), v)
	d.Crash(0, 0)
	wantState(t, "behind a crash", opened(t, d), bal(1, 0), 0, 10, v)
}

func TestOpenNew(t *testing.T) {
	for _, c := range []struct{ sectors, room int }{
		{10, 1}, {11, 1}, {12, 2}, {13, 2}, {30, 11}, {31, 11}, {4095, 2043}, {4096, 2044},
	} {
		d := sector.New(c.sectors)
		was := picture(t, d)
		wantState(t, fmt.Sprint(c.sectors, " sectors"), opened(t, d), bal(0, 0), 0, c.room)
		if picture(t, d) != was || len(d.Loose()) > 0 {
			t.Errorf("Open changes a device of %d sectors", c.sectors)
		}
	}
}

func TestOpenRefuses(t *testing.T) {
	wantNone := func(what string, d *sector.Device, want api.Errno) {
		t.Helper()
		if a, err := durable.Open(d); a != nil || err != want {
			t.Errorf("Open of %s: %v and %d, want nothing and %d", what, a != nil, err, want)
		}
	}
	wantNone("nil", nil, api.ErrArg)
	for n := 1; n < 10; n++ {
		wantNone(fmt.Sprint(n, " sectors"), sector.New(n), api.ErrArg)
	}
	lost := sector.New(10)
	lost.Lose()
	wantNone("a lost device", lost, api.ErrDown)
	lost = sector.New(9)
	lost.Lose()
	wantNone("a lost device that is too small, too", lost, api.ErrArg)
	for _, state := range []string{"", "\x02", "0", "1", "\xff", "\x00\x00", "\x01\x00", "\x00\x01", many(244)} {
		for _, generation := range []int{1, 2, lastN} {
			d := sector.New(30)
			stateAt(t, d, state, generation)
			wantNone(fmt.Sprintf("state %q", state), d, api.ErrSyntax)
			stateAt(t, d, "\x01", max(1, generation-1)) // the other state counts no more
			if generation > 1 {
				wantNone(fmt.Sprintf("state %q, newer than a good one", state), d, api.ErrSyntax)
			}
		}
	}
}

// The area is the one that the newest state tells, and its records are those of the epoch that is the state's generation.
func TestOpenArea(t *testing.T) {
	none, one, two := vote(1, 1, 0, "none"), vote(2, 2, 0, "one"), vote(3, 3, 0, "two")
	for _, c := range []struct {
		what       string
		states     []string // from generation 1 on
		area0, own string   // records of area 0 and 1
		want       []api.Vote
	}{
		{"no state", nil, voted(0, 0, none), voted(0, 0, one), []api.Vote{none}},
		{"area 1", []string{"\x01"}, voted(1, 0, one), voted(1, 0, two), []api.Vote{two}},
		{"area 0", []string{"\x00"}, voted(1, 0, one), voted(1, 0, two), []api.Vote{one}},
		{"area 0 again", []string{"\x01", "\x00"}, voted(2, 0, one), voted(2, 0, two), []api.Vote{one}},
		{"area 1 twice", []string{"\x01", "\x01"}, voted(2, 0, one), voted(2, 0, two), []api.Vote{two}},
		{"a third state", []string{"\x01", "\x00", "\x01"}, voted(2, 0, one), voted(3, 0, two), []api.Vote{two}},
		{"an older epoch", []string{"\x01"}, voted(0, 0, none), voted(0, 0, two), nil},
		{"a newer epoch", []string{"\x01"}, voted(1, 0, none), voted(2, 0, two), nil},
		{"an epoch without a state", nil, voted(1, 0, none), voted(1, 0, two), nil},
	} {
		for _, sectors := range []int{30, 31} {
			d := sector.New(sectors)
			lay(t, d, ahead, c.area0)
			lay(t, d, ahead+11, c.own)
			for i, s := range c.states {
				stateAt(t, d, s, i+1)
			}
			p := bal(0, 0)
			for _, v := range c.want {
				p = v.Ballot
			}
			wantState(t, c.what, opened(t, d), p, 0, 11-len(c.want), c.want...)
		}
	}
}

func TestOpenGreatEpoch(t *testing.T) {
	d := sector.New(30)
	stateAt(t, d, "\x01", lastN)
	lay(t, d, ahead+11, voted(lastN, 0, vote(5, 1, 2, "x")))
	a := opened(t, d)
	wantState(t, "the last epoch", a, bal(1, 2), 0, 10, vote(5, 1, 2, "x"))
	wantPromise(t, a, bal(7, 0), 6)
	wantArea(t, "the last epoch", d, 1, voted(lastN, 0, vote(5, 1, 2, "x")), promised(lastN, 1, bal(7, 0)))
}

// Records are done one behind the other, as they would be done to an acceptor: some are refused, but count.
func TestOpenDoes(t *testing.T) {
	great := vote(4, 9, 0, many(mostBody+1))
	d := laid(t, 400,
		promised(0, 0, bal(2, 1)),
		voted(0, 1, vote(5, 2, 1, "five")),
		voted(0, 2, vote(3, 2, 1, "three")),
		voted(0, 3, vote(6, 2, 0, "less")),  // less than the promise
		promised(0, 4, bal(1, 6)),           // likewise
		voted(0, 5, vote(-1, 3, 0, "slot")), // no slot
		voted(0, 6, vote(maxLog, 3, 0, "slot")),
		voted(0, 7, great),
		promised(0, 8, bal(-1, 0)),
		promised(0, 9, bal(3, 7)),
		promised(0, 10, bal(math.MaxInt, math.MinInt)),
		trimmed(0, 11, 4),
		voted(0, 12, vote(3, 3, 0, "trimmed")),
		trimmed(0, 13, 2),
		trimmed(0, 14, math.MinInt),
		voted(0, 15, vote(5, 2, 2, "anew")),
		voted(0, 16, vote(7, 2, 2, "")),
		promised(0, 17, bal(2, 2)), // the same one
	)
	used := 17 + len(voted(0, 7, great))/wide
	wantState(t, "all", opened(t, d), bal(2, 2), 4, 196-used, vote(5, 2, 2, "anew"), vote(7, 2, 2, ""))
	d = laid(t, 30, voted(0, 0, vote(maxLog-1, 4, 4, "x")), trimmed(0, 1, math.MaxInt), promised(0, 2, bal(5, 0)))
	wantState(t, "trimmed to the end", opened(t, d), bal(5, 0), maxLog, 8)
}

// spoilt is s with another byte at i.
func spoilt(s string, i int) string {
	b := []byte(s)
	b[i] ^= 0x41
	return string(b)
}

// Behind the first place where none begins, records do not count, whatever follows.
func TestOpenEnds(t *testing.T) {
	first, later := vote(1, 1, 0, "first"), vote(3, 3, 0, "later")
	body := voteBody(0, 1, vote(2, 2, 0, "second"))
	good := recordOf(body)
	long := func(n int) string { return recordOf(voteBody(0, 1, vote(2, 2, 0, many(n)))) }
	for what, second := range map[string]string{
		"bytes 0":                     zeros(wide),
		"bytes 255":                   strings.Repeat("\xff", wide),
		"another epoch":               recordOf(voteBody(1, 1, vote(2, 2, 0, "second"))),
		"an epoch below 0":            recordOf(voteBody(-1, 1, vote(2, 2, 0, "second"))),
		"a number ahead":              recordOf(voteBody(0, 0, vote(2, 2, 0, "second"))),
		"a number behind":             recordOf(voteBody(0, 2, vote(2, 2, 0, "second"))),
		"kind 0":                      recordOf(ints(0, 1) + "\x00"),
		"kind 0 of a vote":            recordOf(strings.Replace(body, "\x02", "\x00", 1)),
		"kind 4":                      recordOf(strings.Replace(body, "\x02", "\x04", 1)),
		"kind 4 alone":                recordOf(ints(0, 1) + "\x04"),
		"kind 255":                    recordOf(strings.Replace(body, "\x02", "\xff", 1)),
		"no kind":                     recordOf(ints(0, 1)),
		"no number":                   recordOf(ints(0)),
		"nothing":                     recordOf(""),
		"nothing that is sealed":      filled(textOf("abc")),
		"a promise without a node":    recordOf(ints(0, 1) + "\x01" + ints(2)),
		"a promise and more":          recordOf(promiseBody(0, 1, bal(2, 0)) + "\x00"),
		"a vote without a value":      recordOf(ints(0, 1) + "\x02" + ints(2, 2, 0)),
		"a vote without all of it":    recordOf(ints(0, 1) + "\x02" + ints(2, 2, 0, 3) + "ab"),
		"a vote and more":             recordOf(body + "\x00"),
		"a trim without a slot":       recordOf(ints(0, 1) + "\x03"),
		"a trim and more":             recordOf(trimBody(0, 1, 2) + "\x00"),
		"a number of too many groups": recordOf(ints(0) + "\x82\x00\x03" + ints(2)),
		"a number of 65 bits":         recordOf(ints(0, 1) + "\x03\xff\xff\xff\xff\xff\xff\xff\xff\xff\x02"),
		"a sum that is wrong":         spoilt(good, len(textOf(body))+2),
		"a body that is wrong":        spoilt(good, 10),
		"a length that is wrong":      spoilt(good, 0),
		"a length of too many groups": filled(string([]byte{byte(2*len(sealed(body))) | 0x80, 0}) + sealed(body)),
		"a length below 0":            filled(ints(-1) + sealed(body)),
		"a byte behind it":            spoilt(good, wide-1),
		"a byte right behind it":      spoilt(good, len(textOf(sealed(body)))),
		"a byte in its last sector":   spoilt(long(100), 2*wide-1),
		"the first sector of two":     long(100)[:wide],
		"the second sector of two":    long(100)[wide:],
	} {
		d := laid(t, 40, voted(0, 0, first), second, voted(0, 1, later), voted(0, 2, later))
		wantState(t, what, opened(t, d), bal(1, 0), 0, 15, first)
	}
	d := laid(t, 40, voted(0, 0, first), good, voted(0, 2, later))
	wantState(t, "all good", opened(t, d), bal(3, 0), 0, 13, first, vote(2, 2, 0, "second"), later)
}

// A record counts if it goes into the area; one that goes beyond does not, though all of it is there.
func TestOpenAtTheEnd(t *testing.T) {
	v := vote(1, 1, 0, many(2*wide)) // three sectors
	w := vote(2, 2, 0, "x")
	for area := range 2 {
		for room := range 6 {
			d := sector.New(ahead + 2*8 + 1)
			if area == 1 {
				stateAt(t, d, "\x01", 1)
			}
			var records []string
			for i := range 8 - room {
				records = append(records, trimmed(area, i, 0))
			}
			fit := append(slices.Clone(records), voted(area, 8-room, v), voted(area, 9-room, w))
			text := strings.Join(fit, "")
			at := ahead + area*8
			lay(t, d, at, text[:min(len(text), (d.Sectors()-at)*wide)])
			what := fmt.Sprintf("%d sectors are left in area %d", room, area)
			switch {
			case room < 3:
				wantState(t, what, opened(t, d), bal(0, 0), 0, room)
			case room == 3:
				wantState(t, what, opened(t, d), bal(1, 0), 0, 0, v)
			default:
				wantState(t, what, opened(t, d), bal(2, 0), 0, room-4, v, w)
			}
		}
	}
}

// A record of more bytes than a writer writes is one all the same.
func TestOpenGreatRecord(t *testing.T) {
	great := voted(0, 0, vote(1, 1, 0, many(1<<16+1)))
	d := laid(t, api.MaxSectors, great, promised(0, 1, bal(4, 0)))
	wantState(t, "a great record", opened(t, d), bal(4, 0), 0, 2044-len(great)/wide-1)
	// Its length may be that of all that is left.
	size := 2044*wide - 3 // behind a length of 3 bytes
	body := voteBody(0, 0, vote(1, 1, 0, ""))
	body = body[:len(body)-1]
	value := many(size - 4 - len(body) - 3)
	whole := textOf(sealed(body + textOf(value)))
	if len(whole) != 2044*wide {
		t.Fatalf("it has %d bytes", len(whole))
	}
	wantState(t, "the whole area", opened(t, laid(t, api.MaxSectors, whole)), bal(0, 0), 0, 0)
}

func TestPromise(t *testing.T) {
	d := sector.New(30)
	a := opened(t, d)
	wantSame(t, "the zero one", d, a, func() { wantPromise(t, a, bal(0, 0), 0) })
	wantPromise(t, a, bal(0, 1), 0)
	wantArea(t, "one", d, 0, promised(0, 0, bal(0, 1)))
	wantPromise(t, a, bal(2, 3), 5)
	records := []string{promised(0, 0, bal(0, 1)), promised(0, 1, bal(2, 3))}
	wantArea(t, "two", d, 0, records...)
	wantState(t, "two", a, bal(2, 3), 0, 9)
	wantSame(t, "the same one", d, a, func() { wantPromise(t, a, bal(2, 3), 0) })
	for _, b := range []api.Ballot{bal(2, 2), bal(0, 6), bal(-1, 0), bal(2, 7), bal(lastN+1, 0), bal(3, -1),
		bal(math.MinInt, math.MinInt), bal(math.MaxInt, math.MaxInt)} {
		wantSame(t, fmt.Sprint(b), d, a, func() { wantNoPromise(t, a, b, 0, api.OK) })
	}
	wantAccept(t, a, vote(3, 2, 3, "three"), vote(5, 2, 3, "five"))
	wantTrim(t, a, 2, api.OK)
	for _, from := range []int{1, 0, -1, math.MinInt} {
		wantSame(t, fmt.Sprint("from ", from), d, a, func() { wantNoPromise(t, a, bal(9, 0), from, api.OK) })
		wantSame(t, fmt.Sprint("from ", from), d, a, func() { wantNoPromise(t, a, bal(2, 3), from, api.OK) })
	}
	wantPromise(t, a, bal(lastN, 6), 4, vote(5, 2, 3, "five"))
	wantPromise(t, a, bal(lastN, 6), 2, vote(3, 2, 3, "three"), vote(5, 2, 3, "five"))
	wantPromise(t, a, bal(lastN, 6), math.MaxInt)
	records = append(records, voted(0, 2, vote(3, 2, 3, "three")), voted(0, 3, vote(5, 2, 3, "five")),
		trimmed(0, 4, 2), promised(0, 5, bal(lastN, 6)))
	wantArea(t, "all", d, 0, records...)
	wantState(t, "all, read", opened(t, d), bal(lastN, 6), 2, 5, vote(3, 2, 3, "three"), vote(5, 2, 3, "five"))
}

func TestAccept(t *testing.T) {
	d := sector.New(400)
	a := opened(t, d)
	zero := vote(0, 0, 0, "")
	wantAccept(t, a, zero)
	wantSame(t, "the same one", d, a, func() { wantAccept(t, a, zero) })
	anew, other, late := vote(0, 0, 0, "anew"), vote(0, 1, 2, "anew"), vote(maxLog-1, 1, 2, "late")
	great := vote(4, 1, 2, many(mostBody))
	wantAccept(t, a, anew, other, late, great)
	wantSame(t, "the same ones", d, a, func() { wantAccept(t, a, other, late, great) })
	for _, v := range []api.Vote{vote(0, 1, 1, "less"), vote(0, 0, 0, "anew"), vote(-1, 2, 0, "x"),
		vote(maxLog, 2, 0, "x"), vote(math.MinInt, 2, 0, "x"), vote(math.MaxInt, 2, 0, "x"), vote(5, 2, 7, "x"),
		vote(5, 2, -1, "x"), vote(5, -1, 0, "x"), vote(5, lastN+1, 0, "x"), vote(5, 2, 0, many(mostBody+1))} {
		wantSame(t, brief([]api.Vote{v}), d, a, func() { wantNoAccept(t, a, v, api.OK) })
	}
	// A vote that stands, but by a lesser ballot than the promise, is refused.
	wantPromise(t, a, bal(2, 0), 7, late)
	wantSame(t, "below the promise", d, a, func() { wantNoAccept(t, a, late, api.OK) })
	wantTrim(t, a, 1, api.OK)
	wantSame(t, "below the base", d, a, func() { wantNoAccept(t, a, vote(0, 2, 0, "x"), api.OK) })
	wantArea(t, "all", d, 0, voted(0, 0, zero), voted(0, 1, anew), voted(0, 2, other), voted(0, 3, late),
		voted(0, 4, great), promised(0, 5, bal(2, 0)), trimmed(0, 6, 1))
	room := 196 - 6 - len(voted(0, 4, great))/wide
	wantState(t, "all", a, bal(2, 0), 1, room, great, late)
	wantState(t, "all, read", opened(t, d), bal(2, 0), 1, room, great, late)
	for _, c := range []struct {
		from int
		want []api.Vote
	}{{math.MinInt, []api.Vote{great, late}}, {4, []api.Vote{great, late}}, {5, []api.Vote{late}},
		{maxLog - 1, []api.Vote{late}}, {maxLog, nil}, {math.MaxInt, nil}} {
		if got := a.Votes(c.from); !slices.Equal(got, c.want) {
			t.Errorf("Votes(%d): %s, want %s", c.from, brief(got), brief(c.want))
		}
	}
}

// Each of what an Accept may change is on the device, alone.
func TestAcceptChanges(t *testing.T) {
	v := vote(2, 1, 1, "x")
	for what, next := range map[string]api.Vote{
		"the promise and the ballot": vote(2, 1, 2, "x"),
		"the value":                  vote(2, 1, 1, "y"),
		"no value":                   vote(2, 1, 1, ""),
		"the slot ahead":             vote(1, 1, 1, "x"),
		"the slot behind":            vote(3, 1, 1, "x"),
	} {
		d := sector.New(30)
		a := opened(t, d)
		wantAccept(t, a, v, next)
		wantArea(t, what, d, 0, voted(0, 0, v), voted(0, 1, next))
	}
}

func TestTrim(t *testing.T) {
	d := sector.New(40)
	a := opened(t, d)
	for _, upto := range []int{0, -1, math.MinInt} {
		wantSame(t, fmt.Sprint("upto ", upto), d, a, func() { wantTrim(t, a, upto, api.OK) })
	}
	three, five := vote(3, 1, 0, "three"), vote(5, 1, 0, "five")
	wantAccept(t, a, three, five)
	wantTrim(t, a, 3, api.OK)
	wantState(t, "to 3", a, bal(1, 0), 3, 13, three, five)
	wantTrim(t, a, 4, api.OK)
	wantState(t, "to 4", a, bal(1, 0), 4, 12, five)
	for _, upto := range []int{4, 3, 0, -1, math.MinInt} {
		wantSame(t, fmt.Sprint("upto ", upto), d, a, func() { wantTrim(t, a, upto, api.OK) })
	}
	records := []string{voted(0, 0, three), voted(0, 1, five), trimmed(0, 2, 3), trimmed(0, 3, 4)}
	wantArea(t, "to 4", d, 0, records...)
	wantTrim(t, a, maxLog-1, api.OK)
	wantState(t, "nearly all", a, bal(1, 0), maxLog-1, 11)
	wantTrim(t, a, maxLog, api.OK)
	wantState(t, "all", opened(t, d), bal(1, 0), maxLog, 10)
	for _, upto := range []int{maxLog, maxLog + 1, math.MaxInt} {
		wantSame(t, fmt.Sprint("upto ", upto), d, a, func() { wantTrim(t, a, upto, api.OK) })
	}
	wantArea(t, "all", d, 0, append(records, trimmed(0, 4, maxLog-1), trimmed(0, 5, maxLog))...)
	for _, upto := range []int{maxLog + 1, math.MaxInt} {
		d := sector.New(30)
		a := opened(t, d)
		wantTrim(t, a, upto, api.OK)
		wantState(t, "beyond the end", a, bal(0, 0), maxLog, 10)
		wantState(t, "beyond the end, read", opened(t, d), bal(0, 0), maxLog, 10)
		wantArea(t, "beyond the end", d, 0, trimmed(0, 0, maxLog))
	}
}

// sizes are values whose records take this many sectors just so, and one byte more than that.
func sizes(n int) (just, over string) {
	for len(voted(0, 0, vote(1, 1, 0, over))) <= n*wide {
		just, over = over, over+"x"
	}
	return just, over
}

func TestRecordsInSectors(t *testing.T) {
	for n := 1; n < 5; n++ {
		just, over := sizes(n)
		for _, value := range []string{just, over} {
			d := sector.New(40)
			a := opened(t, d)
			v := vote(1, 1, 0, value)
			wantAccept(t, a, v)
			record := voted(0, 0, v)
			if value == just && len(record) != n*wide || value == over && len(record) != (n+1)*wide {
				t.Fatalf("a value of %d bytes takes %d", len(value), len(record))
			}
			wantArea(t, "a vote", d, 0, record)
			wantState(t, "a vote", a, bal(1, 0), 0, 16-len(record)/wide, v)
			wantState(t, "a vote, read", opened(t, d), bal(1, 0), 0, 16-len(record)/wide, v)
		}
	}
}

func TestFull(t *testing.T) {
	for _, sectors := range []int{10, 11} {
		d := sector.New(sectors)
		a := opened(t, d)
		just, over := sizes(1)
		wantSame(t, "too great", d, a, func() { wantNoAccept(t, a, vote(1, 1, 0, over), api.ErrFull) })
		wantAccept(t, a, vote(1, 1, 0, just))
		wantState(t, "full", a, bal(1, 0), 0, 0, vote(1, 1, 0, just))
		wantSame(t, "full", d, a, func() {
			wantNoPromise(t, a, bal(2, 0), 0, api.ErrFull)
			wantNoAccept(t, a, vote(2, 1, 0, ""), api.ErrFull)
			wantNoAccept(t, a, vote(1, 1, 0, ""), api.ErrFull)
			wantNoAccept(t, a, vote(1, 2, 0, just), api.ErrFull)
			wantTrim(t, a, 1, api.ErrFull)
		})
		// What changes nothing, or is refused, needs no room.
		wantSame(t, "full, without a change", d, a, func() {
			wantPromise(t, a, bal(1, 0), 0, vote(1, 1, 0, just))
			wantNoPromise(t, a, bal(0, 6), 0, api.OK)
			wantAccept(t, a, vote(1, 1, 0, just))
			wantNoAccept(t, a, vote(1, 0, 6, just), api.OK)
			wantNoAccept(t, a, vote(1, 1, 0, many(mostBody+1)), api.OK)
			wantTrim(t, a, 0, api.OK)
		})
		wantState(t, "full, read", opened(t, d), bal(1, 0), 0, 0, vote(1, 1, 0, just))
	}
}

// In an area that isn't full, what goes into it is appended, behind one that did not.
func TestFullForSome(t *testing.T) {
	d := sector.New(ahead + 2*3)
	a := opened(t, d)
	wantPromise(t, a, bal(1, 0), 0)
	wantSame(t, "three sectors", d, a, func() { wantNoAccept(t, a, vote(0, 1, 0, many(2*wide)), api.ErrFull) })
	wantAccept(t, a, vote(0, 1, 0, many(wide)))
	wantState(t, "full", opened(t, d), bal(1, 0), 0, 0, vote(0, 1, 0, many(wide)))
	wantArea(t, "the other one", d, 1)
}

func TestDeviceLost(t *testing.T) {
	v := vote(3, 2, 0, "x")
	for what, do := range map[string]func(*durable.Durable){
		"Promise": func(a *durable.Durable) { wantNoPromise(t, a, bal(3, 0), 1, api.ErrDown) },
		"Accept":  func(a *durable.Durable) { wantNoAccept(t, a, vote(4, 2, 0, "y"), api.ErrDown) },
		"Trim":    func(a *durable.Durable) { wantTrim(t, a, 2, api.ErrDown) },
		"Compact": func(a *durable.Durable) { wantCompact(t, a, all, api.ErrDown) },
		"a step":  func(a *durable.Durable) { wantCompact(t, a, 1, api.ErrDown) },
		"no step": func(a *durable.Durable) { wantCompact(t, a, 0, api.ErrState) },
	} {
		d := sector.New(30)
		a := opened(t, d)
		wantAccept(t, a, v)
		wantTrim(t, a, 1, api.OK)
		d.Lose()
		wantPromise(t, a, bal(2, 0), 1, v) // changes nothing, so no device is asked
		wantAccept(t, a, v)
		wantTrim(t, a, 1, api.OK)
		wantNoPromise(t, a, bal(1, 0), 1, api.OK)
		do(a)
		wantState(t, what, a, bal(2, 0), 1, 9, v)
		wantCut(t, a)
		wantState(t, what+", behind all", a, bal(2, 0), 1, 9, v)
	}
}

// No room is told ahead of a device that is lost, and then nothing is cut.
func TestDeviceLostAndFull(t *testing.T) {
	d := sector.New(10)
	a := opened(t, d)
	wantAccept(t, a, vote(1, 1, 0, "x"))
	d.Lose()
	for range 2 {
		wantNoPromise(t, a, bal(2, 0), 0, api.ErrFull)
		wantNoAccept(t, a, vote(2, 1, 0, "x"), api.ErrFull)
		wantTrim(t, a, 1, api.ErrFull)
		wantCompact(t, a, all, api.ErrFull)
		wantCompact(t, a, 0, api.ErrFull)
	}
}

func TestCompact(t *testing.T) {
	for _, n := range []int{all, steps, steps + 1, math.MinInt, math.MaxInt} {
		for _, sectors := range []int{40, 41} {
			d := sector.New(sectors)
			lay(t, d, ahead+16, strings.Repeat("\xff", 16*wide)) // what an area had is no more
			a := opened(t, d)
			four, five, six, seven := vote(4, 2, 1, "four"), vote(5, 1, 0, "five"), vote(6, 3, 0, "six"), vote(7, 2, 0, "seven")
			wantAccept(t, a, vote(4, 1, 0, "ahead"), five, vote(2, 1, 0, "two"), vote(8, 1, 0, "eight"), seven, four,
				vote(9, 2, 1, "nine"), vote(1, 2, 1, "one"), six)
			wantTrim(t, a, 3, api.OK)
			wantPromise(t, a, bal(4, 0), 10)
			wantState(t, "ahead", a, bal(4, 0), 3, 5, four, five, six, seven, vote(8, 1, 0, "eight"), vote(9, 2, 1, "nine"))
			old := picture(t, d)[ahead*wide:][:16*wide]
			wantCompact(t, a, n, api.OK)
			records := []string{trimmed(1, 0, 3), voted(1, 1, five), voted(1, 2, vote(8, 1, 0, "eight")), voted(1, 3, seven),
				voted(1, 4, four), voted(1, 5, vote(9, 2, 1, "nine")), voted(1, 6, six), promised(1, 7, bal(4, 0))}
			wantArea(t, "compacted", d, 1, records...)
			wantState(t, "compacted", a, bal(4, 0), 3, 8, four, five, six, seven, vote(8, 1, 0, "eight"), vote(9, 2, 1, "nine"))
			if picture(t, d)[ahead*wide:][:16*wide] != old {
				t.Errorf("the area that was is another one")
			}
			if l := d.Loose(); len(l) > 0 {
				t.Errorf("sectors %v are loose", l)
			}
			d.Crash(0, 0)
			wantState(t, "read", opened(t, d), bal(4, 0), 3, 8, four, five, six, seven, vote(8, 1, 0, "eight"), vote(9, 2, 1, "nine"))
			// It goes on in the area that is then.
			wantTrim(t, a, 7, api.OK)
			wantArea(t, "appended", d, 1, append(records, trimmed(1, 8, 7))...)
			wantState(t, "appended", opened(t, d), bal(4, 0), 7, 7, seven, vote(8, 1, 0, "eight"), vote(9, 2, 1, "nine"))
			// And back to the first one.
			wantCompact(t, a, n, api.OK)
			wantArea(t, "compacted again", d, 0, trimmed(2, 0, 7), voted(2, 1, vote(8, 1, 0, "eight")), voted(2, 2, seven),
				voted(2, 3, vote(9, 2, 1, "nine")), promised(2, 4, bal(4, 0)))
			wantState(t, "compacted again", opened(t, d), bal(4, 0), 7, 11, seven, vote(8, 1, 0, "eight"), vote(9, 2, 1, "nine"))
		}
	}
}

// The state and its generation stand as chapter 10 writes them, over and over.
func TestCompactStates(t *testing.T) {
	d, twin := sector.New(30), sector.New(30)
	a := opened(t, d)
	wantPromise(t, a, bal(1, 1), 0)
	for epoch := 1; epoch < 8; epoch++ {
		wantCompact(t, a, all, api.OK)
		stateAt(t, twin, string(rune(epoch%2)), epoch)
		if picture(t, d)[:ahead*wide] != picture(t, twin)[:ahead*wide] {
			t.Fatalf("epoch %d: another state stands on the device", epoch)
		}
		wantArea(t, fmt.Sprint("epoch ", epoch), d, epoch%2, promised(epoch, 0, bal(1, 1)))
		wantArea(t, fmt.Sprint("epoch ", epoch), d, 1-epoch%2, promised(epoch-1, 0, bal(1, 1)))
		if epoch%3 == 0 {
			a = opened(t, d)
		}
	}
}

// What isn't there isn't written: no trim to 0, no promise of the zero ballot.
func TestCompactFew(t *testing.T) {
	for _, c := range []struct {
		what string
		do   func(*durable.Durable)
		want []string
	}{
		{"nothing", func(a *durable.Durable) {}, nil},
		{"a vote by the zero ballot", func(a *durable.Durable) { wantAccept(t, a, vote(0, 0, 0, "")) },
			[]string{voted(1, 0, vote(0, 0, 0, ""))}},
		{"a vote", func(a *durable.Durable) { wantAccept(t, a, vote(0, 0, 1, "")) },
			[]string{voted(1, 0, vote(0, 0, 1, "")), promised(1, 1, bal(0, 1))}},
		{"a promise", func(a *durable.Durable) { wantPromise(t, a, bal(1, 0), 0) }, []string{promised(1, 0, bal(1, 0))}},
		{"a trim", func(a *durable.Durable) { wantTrim(t, a, 1, api.OK) }, []string{trimmed(1, 0, 1)}},
		{"a trim of all", func(a *durable.Durable) { wantTrim(t, a, math.MaxInt, api.OK) }, []string{trimmed(1, 0, maxLog)}},
		{"a trimmed vote", func(a *durable.Durable) {
			wantAccept(t, a, vote(0, 0, 0, ""))
			wantTrim(t, a, 1, api.OK)
		}, []string{trimmed(1, 0, 1)}},
	} {
		d := sector.New(30)
		lay(t, d, ahead+11, strings.Repeat("\xff", 11*wide))
		a := opened(t, d)
		c.do(a)
		p, base, votes := a.Promised(), a.Base(), a.Votes(0)
		wantCompact(t, a, all, api.OK)
		wantArea(t, c.what, d, 1, c.want...)
		wantState(t, c.what, a, p, base, 11-len(c.want), votes...)
		wantState(t, c.what+", read", opened(t, d), p, base, 11-len(c.want), votes...)
	}
}

func TestCompactFull(t *testing.T) {
	d := sector.New(11)
	a := opened(t, d)
	wantAccept(t, a, vote(1, 1, 0, "x")) // the vote and its promise take two
	for _, n := range []int{all, 0, 1, 2, steps, math.MaxInt, math.MinInt} {
		wantSame(t, "two in one", d, a, func() { wantCompact(t, a, n, api.ErrFull) })
	}
	wantNoPromise(t, a, bal(2, 0), 0, api.ErrFull) // nothing is cut
	d = sector.New(12)
	a = opened(t, d)
	wantAccept(t, a, vote(1, 1, 0, "x"))
	wantTrim(t, a, 1, api.OK)
	wantSame(t, "three in two", d, a, func() { wantCompact(t, a, all, api.ErrFull) })
	d = sector.New(14)
	a = opened(t, d)
	wantAccept(t, a, vote(1, 1, 0, "x"))
	wantTrim(t, a, 1, api.OK)
	wantCompact(t, a, all, api.OK)
	wantState(t, "three in three", opened(t, d), bal(1, 0), 1, 0, vote(1, 1, 0, "x"))
	// A record of a greater epoch may be longer.
	just, _ := sizes(1)
	d = sector.New(12)
	stateAt(t, d, "\x00", 63)
	a = opened(t, d)
	wantAccept(t, a, vote(1, 1, 0, just))
	wantSame(t, "a longer epoch", d, a, func() { wantCompact(t, a, all, api.ErrFull) })
}

// Of a Compact that is cut, some steps are done, and nothing that was there is lost.
func TestCompactCut(t *testing.T) {
	v, w := vote(3, 2, 0, "x"), vote(1, 1, 0, many(100))
	for n := range steps {
		for _, keep := range []uint64{0, 1, 2, 5, math.MaxUint64} {
			d := sector.New(30)
			a := opened(t, d)
			wantCompact(t, a, all, api.OK) // so that the area is the second one
			wantAccept(t, a, w, v)
			lay(t, d, ahead, strings.Repeat("\xff", 11*wide))
			was := picture(t, d)
			wantCompact(t, a, n, api.ErrState)
			wantState(t, "cut", a, bal(2, 0), 0, 8, w, v)
			wantCut(t, a)
			wantState(t, "cut, behind all", a, bal(2, 0), 0, 8, w, v)
			now := picture(t, d)
			if now[:ahead*wide] != was[:ahead*wide] || now[(ahead+11)*wide:] != was[(ahead+11)*wide:] {
				t.Errorf("%d steps: more than the other area is another one", n)
			}
			if n == 0 && now != was {
				t.Errorf("no step: the device is another one")
			}
			if n > 0 {
				wantArea(t, fmt.Sprint(n, " steps"), d, 0, voted(2, 0, w), voted(2, 1, v), promised(2, 2, bal(2, 0)))
			}
			var loose []int
			for i := range 11 {
				if n == 1 {
					loose = append(loose, ahead+i)
				}
			}
			if l := d.Loose(); !slices.Equal(l, loose) {
				t.Errorf("%d steps: sectors %v are loose, want %v", n, l, loose)
			}
			d.Crash(keep, 0)
			b := opened(t, d)
			wantState(t, "read", b, bal(2, 0), 0, 8, w, v)
			wantAccept(t, b, vote(4, 2, 0, "y"))
			wantCompact(t, b, all, api.OK)
			wantState(t, "read again", opened(t, d), bal(2, 0), 0, 6, w, v, vote(4, 2, 0, "y"))
		}
	}
}

// There is no generation behind the last one: chapter 10's error is the answer.
func TestCompactLastEpoch(t *testing.T) {
	d := sector.New(30)
	stateAt(t, d, "\x00", lastN)
	a := opened(t, d)
	wantAccept(t, a, vote(1, 1, 0, "x"))
	wantCompact(t, a, all, api.ErrFull)
	wantState(t, "the last epoch", a, bal(1, 0), 0, 10, vote(1, 1, 0, "x"))
	wantState(t, "the last epoch, read", opened(t, d), bal(1, 0), 0, 10, vote(1, 1, 0, "x"))
	b := opened(t, d)
	wantCompact(t, b, 2, api.ErrState)
	d = sector.New(30)
	stateAt(t, d, "\x00", lastN-1)
	a = opened(t, d)
	wantAccept(t, a, vote(1, 1, 0, "x"))
	wantCompact(t, a, all, api.OK)
	wantArea(t, "the last epoch", d, 1, voted(lastN, 0, vote(1, 1, 0, "x")), promised(lastN, 1, bal(1, 0)))
}

func TestNil(t *testing.T) {
	var a *durable.Durable
	wantNoPromise(t, a, bal(1, 0), 0, api.ErrArg)
	wantNoPromise(t, a, bal(-1, 0), -1, api.ErrArg)
	wantNoAccept(t, a, vote(1, 1, 0, "x"), api.ErrArg)
	wantNoAccept(t, a, vote(-1, 1, 0, "x"), api.ErrArg)
	wantTrim(t, a, 1, api.ErrArg)
	wantTrim(t, a, -1, api.ErrArg)
	for _, n := range []int{all, 0, 1, steps} {
		wantCompact(t, a, n, api.ErrArg)
	}
	wantState(t, "nil", a, bal(0, 0), 0, 0)
}

// What is handed out is new memory: no two answers share any, nor do they with what was handed in.
func TestMemory(t *testing.T) {
	d := sector.New(30)
	a := opened(t, d)
	value := strings.Clone("a value")
	wantAccept(t, a, vote(3, 1, 0, value))
	seen := map[*byte]string{unsafe.StringData(value): "what was handed in"}
	tell := func(what string, l []api.Vote) {
		t.Helper()
		if len(l) != 1 || l[0].Value != "a value" {
			t.Fatalf("%s: %s", what, brief(l))
		}
		at := unsafe.StringData(l[0].Value)
		if other, ok := seen[at]; ok {
			t.Errorf("%s shares its value with %s", what, other)
		}
		seen[at] = what
		l[0] = vote(9, 9, 9, "spoilt")
	}
	tell("Votes", a.Votes(0))
	tell("Votes again", a.Votes(0))
	for i := range 2 {
		l, _, _ := a.Promise(bal(2, 0), 0)
		tell(fmt.Sprint("Promise ", i), l)
	}
	wantCompact(t, a, all, api.OK)
	tell("Votes behind Compact", a.Votes(0))
	b := opened(t, d)
	tell("Votes of another one", b.Votes(0))
	tell("Votes at last", a.Votes(0))
}

// Two devices, and two that are opened on one, are apart.
func TestApart(t *testing.T) {
	d := sector.New(30)
	a, other := opened(t, d), opened(t, sector.New(30))
	wantAccept(t, a, vote(3, 2, 1, "x"))
	wantTrim(t, a, 2, api.OK)
	wantState(t, "another device", other, bal(0, 0), 0, 11)
	b := opened(t, d)
	wantCompact(t, b, 0, api.ErrState)
	wantAccept(t, a, vote(4, 2, 1, "y"))
	wantState(t, "the first one", a, bal(2, 1), 2, 8, vote(3, 2, 1, "x"), vote(4, 2, 1, "y"))
	wantState(t, "the second one", b, bal(2, 1), 2, 9, vote(3, 2, 1, "x"))
}

// All slots have votes, by ballots in another order than the slots.
func TestManyVotes(t *testing.T) {
	d := sector.New(api.MaxSectors)
	a := opened(t, d)
	var want []api.Vote
	for slot := range maxLog {
		want = append(want, vote(slot, slot%5, slot%7, "x"))
	}
	byBallot := slices.Clone(want)
	slices.SortStableFunc(byBallot, func(a, b api.Vote) int {
		if a.Ballot.N != b.Ballot.N {
			return a.Ballot.N - b.Ballot.N
		}
		return a.Ballot.Node - b.Ballot.Node
	})
	wantAccept(t, a, byBallot...)
	wantState(t, "all slots", a, bal(4, 6), 0, 2044-maxLog, want...)
	wantCompact(t, a, all, api.OK)
	wantState(t, "compacted", a, bal(4, 6), 0, 2044-maxLog-1, want...)
	wantState(t, "compacted, read", opened(t, d), bal(4, 6), 0, 2044-maxLog-1, want...)
}

package durable

import (
	"strings"

	"hurdle/api"
	"hurdle/codec"
	"hurdle/sums"
)

// What a record tells.
const (
	kindPromise = 1
	kindVote    = 2
	kindTrim    = 3
)

// record is a change of an acceptor.
type record struct {
	kind int
	vote api.Vote // of a promise its ballot alone
	upto int      // of a trim
}

func promiseRecord(b api.Ballot) record {
	return record{kind: kindPromise, vote: api.Vote{Ballot: b}}
}

func voteRecord(v api.Vote) record {
	return record{kind: kindVote, vote: v}
}

func trimRecord(upto int) record {
	return record{kind: kindTrim, upto: upto}
}

// text is r in whole sectors, as it stands in an area.
func (r record) text(epoch, number int) string {
	w := codec.NewWriter(api.MaxBytes)
	w.Text(sums.Seal(r.body(epoch, number)))
	// Some numbers and a value that may be accepted are never too long.
	text, _ := w.Done()
	return padded(text, (len(text)+api.Sector-1)/api.Sector*api.Sector)
}

// body is r ahead of its seal.
func (r record) body(epoch, number int) string {
	w := codec.NewWriter(api.MaxBytes)
	w.Int(epoch)
	w.Int(number)
	w.Byte(r.kind)
	switch r.kind {
	case kindPromise:
		writeBallot(w, r.vote.Ballot)
	case kindVote:
		w.Int(r.vote.Slot)
		writeBallot(w, r.vote.Ballot)
		w.Text(r.vote.Value)
	case kindTrim:
		w.Int(r.upto)
	}
	body, _ := w.Done()
	return body
}

func writeBallot(w *codec.Writer, b api.Ballot) {
	w.Int(b.N)
	w.Int(b.Node)
}

// textOf are the records as they stand in an area, from its beginning on.
func textOf(records []record, epoch int) string {
	var b strings.Builder
	for number, r := range records {
		b.WriteString(r.text(epoch, number))
	}
	return b.String()
}

// recordsOf are the records that an area begins with, and how many sectors they have.
func recordsOf(area string, epoch int) ([]record, int) {
	var all []record
	used := 0
	in := codec.NewReader(area)
	for {
		r, ok := readRecord(in, epoch, len(all))
		if !ok {
			return all, used
		}
		all = append(all, r)
		used = (len(area) - in.Left()) / api.Sector
	}
}

// readRecord is the record that begins where in stands, at a sector, and whether there is one.
func readRecord(in *codec.Reader, epoch, number int) (record, bool) {
	// A text that doesn't go into the area is read as "", which isn't sealed.
	body, err := sums.Open(in.Text())
	if err != api.OK {
		return record{}, false
	}
	for in.Left()%api.Sector != 0 {
		if in.Byte() != 0 {
			return record{}, false
		}
	}
	return bodyOf(body, epoch, number)
}

// bodyOf is the record whose body that is, and whether it is one of that epoch and number.
func bodyOf(body string, epoch, number int) (record, bool) {
	in := codec.NewReader(body)
	if in.Int() != epoch || in.Int() != number {
		return record{}, false
	}
	r := record{kind: in.Byte()}
	switch r.kind {
	case kindPromise:
		r.vote.Ballot = readBallot(in)
	case kindVote:
		r.vote.Slot = in.Int()
		r.vote.Ballot = readBallot(in)
		r.vote.Value = in.Text()
	case kindTrim:
		r.upto = in.Int()
	default:
		return record{}, false
	}
	return r, in.Done() == api.OK
}

func readBallot(in *codec.Reader) api.Ballot {
	n := in.Int()
	return api.Ballot{N: n, Node: in.Int()}
}

// padded is text, which isn't longer, with bytes 0 to size.
func padded(text string, size int) string {
	return text + strings.Repeat("\x00", size-len(text))
}

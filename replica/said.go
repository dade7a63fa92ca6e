package replica

import "hurdle/api"

// What notes say: of each kind just what that kind tells.
type (
	prepare struct {
		from, slot int
		ballot     api.Ballot
	}
	promise struct {
		from   int
		ballot api.Ballot
		votes  []api.Vote
	}
	accept struct {
		vote api.Vote
	}
	voted struct {
		from int
		vote api.Vote
	}
	ask struct {
		from, slot int
	}
	tell struct {
		votes []api.Vote
	}
)

// said is what a note says, as a value of one of the types above; nil, if it says nothing.
func said(x api.Note) any {
	switch {
	case x.Kind == api.NotePrepare:
		return prepare{x.From, x.Slot, x.Ballot}
	case x.Kind == api.NotePromise:
		return promise{x.From, x.Ballot, x.Votes}
	case x.Kind == api.NoteAccept && len(x.Votes) == 1:
		return accept{x.Votes[0]}
	case x.Kind == api.NoteVoted && len(x.Votes) == 1:
		return voted{x.From, x.Votes[0]}
	case x.Kind == api.NoteAsk:
		return ask{x.From, x.Slot}
	case x.Kind == api.NoteTell:
		return tell{x.Votes}
	}
	return nil
}

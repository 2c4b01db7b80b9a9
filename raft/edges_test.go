package raft_test

import (
	"slices"
	"testing"

	"watershed/api"
	"watershed/log"
)

func TestLeadsFromNowOn(t *testing.T) { // to lead: Since 0
	p := peer(1, 0, 0, cfg(r{1, 2}))
	ticks(p, 11, 0)
	p.Letter(api.Letter{Kind: api.LetterVote, From: 2, To: 1, Term: 1, Ok: true})
	if len(p.Tick(0)) != 0 || len(p.Tick(0)) != 1 {
		t.Error("it sends each second tick from then on")
	}
}

func TestFollowsFromNowOn(t *testing.T) { // P12.3, 5: Heard, Since 0
	for _, kind := range []api.LetterKind{api.LetterAppend, api.LetterPiece} {
		p := peer(2, 1, 0, cfg(r{1, 2}))
		ticks(p, 9, 0)
		p.Letter(api.Letter{Kind: kind, From: 1, To: 2, Term: 1})
		told(t, "waits anew", ticks(p, 9, 0))
		if p.State().Lead != 1 || len(p.Tick(0)) != 1 || p.State().Lead != 0 {
			t.Error("ten ticks")
		}
	}
}

func TestLetterEdges(t *testing.T) { // P12.3
	p := peer(1, 1, 0, cfg(r{1, 2}))
	told(t, "the greatest numbers", p.Letter(api.Letter{Kind: api.LetterAsk, From: 2, To: 1, Term: api.MaxTerm, Index: api.MaxIndex, LogTerm: api.MaxIndex, Commit: api.MaxIndex, Size: api.MaxIndex, At: api.MaxIndex}),
		api.Letter{Kind: api.LetterVote, From: 1, To: 2, Term: api.MaxTerm, Ok: true})
	p = peer(5, 1, 0, cfg(r{1, 5}))
	told(t, "the least term", p.Letter(api.Letter{Kind: api.LetterAsk, From: 1, To: 5, Term: 1}), api.Letter{Kind: api.LetterVote, From: 5, To: 1, Term: 1, Ok: true})
}

func TestNextAtTheBase(t *testing.T) { // sending: Next must be above the base for a LetterAppend
	base := api.Base{Index: 5, Term: 2, Config: cfg(r{1, 2, 3})}
	p := start(1, 2, 0, log.New(base))
	ticks(p, 10, 0)
	p.Letter(api.Letter{Kind: api.LetterVote, From: 3, To: 1, Term: 3, Ok: true})
	out := p.Letter(api.Letter{Kind: api.LetterAck, From: 2, To: 1, Term: 3, Index: 4})
	told(t, "at the base", out, api.Letter{Kind: api.LetterPiece, From: 1, To: 2, Term: 3, Base: base})
	p.Letter(api.Letter{Kind: api.LetterGot, From: 2, To: 1, Term: 3, Index: 5, At: 9, Size: 20})
	out = ack(p, 2, 0)
	told(t, "an ack of old", out, api.Letter{Kind: api.LetterPiece, From: 1, To: 2, Term: 3, Base: base})
}

func TestNotOfFollowers(t *testing.T) { // P12.3, 6, 7
	p := peer(2, 3, 0, cfg(r{1, 2}), 1, 2)
	for _, x := range []api.Letter{{Kind: api.LetterAck, Index: 1}, {Kind: api.LetterAck, Ok: true}, {Kind: api.LetterGot, Size: 9, At: 3}, {Kind: api.LetterGot}} {
		x.From, x.To, x.Term = 1, 2, 3
		told(t, "of a follower", p.Letter(x))
	}
	state(t, "a follower", p, api.Peer{Id: 2, Term: 3, Role: api.RoleFollower})
}

func TestKeptOfTwoLetters(t *testing.T) { // P12.1: the least index since it was asked last
	p := peer(2, 1, 0, cfg(r{1, 2}), 1, 1)
	send := func(index, term int, terms ...int) {
		x := api.Letter{Kind: api.LetterAppend, From: 1, To: 2, Term: 4, Index: index, LogTerm: term}
		for _, term := range terms {
			x.Entries = append(x.Entries, empty(term))
		}
		p.Letter(x)
	}
	send(2, 1, 2, 2)
	send(2, 1, 2, 2) // nothing is put
	send(4, 2, 3)
	if hard, from := p.Kept(); !hard || from != 3 {
		t.Errorf("%v, %d", hard, from)
	}
	send(5, 3, 3)
	send(1, 1, 4)
	if hard, from := p.Kept(); hard || from != 2 {
		t.Errorf("%v, %d", hard, from)
	}
}

func TestLearnersDoNotAsk(t *testing.T) { // P12.2
	p := peer(3, 1, 0, cfg(r{3}))
	p.log.Put(api.Entry{Term: 1, Kind: api.EntryConfig, Config: cfg(r{1, 2}, nil, r{3}, r{1, 2, 3})})
	told(t, "a learner by an entry that is not committed", ticks(p, 40, 0))
	q := peer(3, 1, 0, cfg(r{1, 2}), 1)
	told(t, "no entry says more than is committed", ticks(q, 40, 0))
}

// left is a leader 1 whose group goes over to 2 and 3: the last step, at 4, is put, not committed.
func left(t *testing.T) *tested {
	t.Helper()
	p := leader(t, cfg(r{1, 2, 3}))
	ack(p, 2, 1)
	if _, err := p.Change(2, 3); err != api.OK {
		t.Fatalf("%d", err)
	}
	ack(p, 2, 2)
	ack(p, 2, 3)
	ack(p, 3, 3)
	if c, at := p.log.Config(); at != 4 || !slices.Equal(c.Voters, r{2, 3}) || len(c.Old) > 0 {
		t.Fatalf("%+v at %d", c, at)
	}
	return p
}

func TestLeftOutTellsNothing(t *testing.T) { // P12.3, 6
	p := left(t)
	p.Propose([]byte("x")) // at 5
	ack(p, 2, 4)
	told(t, "it leads no more", ack(p, 3, 4))
	state(t, "left out", p, api.Peer{Id: 1, Term: 1, Vote: 1, Role: api.RoleFollower, Commit: 4})
}

func TestLeftOutButWanted(t *testing.T) { // to commit: one that C leaves out leads on while there is Want
	p := left(t)
	if _, err := p.Change(1, 2, 3, 4); err != api.OK {
		t.Fatalf("%d", err)
	}
	ack(p, 2, 5)
	ack(p, 3, 5)
	if c, at := p.log.Config(); at != 5 || !slices.Equal(c.Learners, r{1, 4}) || p.State().Commit != 5 || p.State().Role != api.RoleLeader {
		t.Errorf("%+v at %d, %+v", c, at, p.State())
	}
	ack(p, 4, 5)
	if c, at := p.log.Config(); at != 6 || len(c.Old) == 0 {
		t.Errorf("%+v at %d", c, at)
	}
}

func TestChangeCommits(t *testing.T) { // P12.4
	p := leader(t, cfg(r{1}))
	p.Change(1, 2)
	if p.State().Commit != 2 {
		t.Errorf("%+v", p.State())
	}
}

func TestInstallNothing(t *testing.T) { // P12.5
	p := peer(1, 0, 0, cfg(r{1}))
	ticks(p, 10, 0)
	p.Propose([]byte("x"), []byte("y"))
	if p.Install(api.Base{}) || p.State().Commit != 3 || p.Install(api.Base{Index: -1}) || p.State().Commit != 3 {
		t.Errorf("%+v", p.State())
	}
	if !p.Install(api.Base{Index: 2, Term: 1, Config: cfg(r{1})}) || p.State().Commit != 3 || p.log.Last() != 3 {
		t.Errorf("%+v", p.State())
	}
}

func TestManyEntriesFit(t *testing.T) { // sending
	p := leader(t, cfg(r{1, 2}))
	ack(p, 2, 1)
	part := make([]byte, api.MaxCommand/4)
	_, out, _ := p.Propose(part, part, part, part, []byte{})
	if len(out[0].Entries) != 5 {
		t.Errorf("%d entries", len(out[0].Entries))
	}
	_, out, _ = p.Propose([]byte{1})
	if len(out[0].Entries) != 5 {
		t.Errorf("%d entries", len(out[0].Entries))
	}
}

func TestHeardLatelyHoldsForAsksAlone(t *testing.T) { // P12.3, 1
	for kind := api.LetterVote; kind <= api.LetterGot; kind++ {
		p := peer(2, 1, 1, cfg(r{1, 2, 3}))
		p.Letter(api.Letter{Kind: api.LetterPiece, From: 1, To: 2, Term: 1})
		p.Letter(api.Letter{Kind: kind, From: 3, To: 2, Term: 5, Ok: true})
		want := api.Peer{Id: 2, Term: 5, Role: api.RoleFollower}
		if kind == api.LetterAppend || kind == api.LetterPiece {
			want.Lead = 3
		}
		state(t, "a higher term", p, want)
		l := leader(t, cfg(r{1, 2, 3}))
		l.Letter(api.Letter{Kind: kind, From: 3, To: 1, Term: 5, Ok: true})
		if s := l.State(); s.Term != 5 || s.Role != api.RoleFollower {
			t.Errorf("kind %d: %+v", kind, s)
		}
	}
}

func TestVoterWaitsAnew(t *testing.T) { // P12.3, 3: Since 0
	p := peer(1, 5, 0, cfg(r{1, 2}))
	ticks(p, 9, 0)
	p.Letter(api.Letter{Kind: api.LetterAsk, From: 2, To: 1, Term: 5})
	told(t, "nine ticks", ticks(p, 9, 0))
	if len(p.Tick(0)) != 1 {
		t.Error("ten ticks")
	}
}

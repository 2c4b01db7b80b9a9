package raft_test

import (
	"math"
	"reflect"
	"slices"
	"testing"

	"watershed/api"
	"watershed/log"
	. "watershed/raft"
)

func cfg(rows ...[]int) api.Config {
	rows = append(rows, nil, nil, nil, nil)
	return api.Config{Voters: rows[0], Old: rows[1], Learners: rows[2], Want: rows[3]}
}

type r = []int

func command(term int, s string) api.Entry {
	return api.Entry{Term: term, Kind: api.EntryCommand, Command: []byte(s)}
}

func empty(term int) api.Entry { return api.Entry{Term: term, Kind: api.EntryNothing} }

// tested is a peer, with the log that it works on.
type tested struct {
	*Peer
	log *log.Log
}

func start(id, term, vote int, l *log.Log) *tested { return &tested{New(id, term, vote, l), l} }

// peer is one of a group, with entries of these terms behind a base of index 0.
func peer(id, term, vote int, c api.Config, terms ...int) *tested {
	l := log.New(api.Base{Config: c})
	for _, t := range terms {
		l.Put(empty(t))
	}
	return start(id, term, vote, l)
}

func ticks(p *tested, n, draw int) []api.Letter {
	var out []api.Letter
	for range n {
		out = append(out, p.Tick(draw)...)
	}
	return out
}

// leader is node 1 of the config, leading in term 1 by the votes of all, with an EntryNothing at the index 1.
func leader(t *testing.T, c api.Config) *tested {
	t.Helper()
	p := peer(1, 0, 0, c)
	ticks(p, 10, 0)
	for n := 2; n <= 5; n++ {
		p.Letter(api.Letter{Kind: api.LetterVote, From: n, To: 1, Term: 1, Ok: true})
	}
	if s := p.State(); s.Role != api.RoleLeader || s.Term != 1 || s.Lead != 1 {
		t.Fatalf("%+v leads not", s)
	}
	p.Kept()
	return p
}

func ack(p *tested, from, index int) []api.Letter {
	s := p.State()
	return p.Letter(api.Letter{Kind: api.LetterAck, From: from, To: s.Id, Term: s.Term, Ok: true, Index: index})
}

// same tells whether letters are those, entries being told by their terms.
func same(a, b []api.Letter) bool {
	return slices.EqualFunc(a, b, func(x, y api.Letter) bool {
		for _, l := range []*api.Letter{&x, &y} {
			if len(l.Entries) == 0 {
				l.Entries = nil
			}
			for i := range l.Entries {
				if len(l.Entries[i].Command) == 0 {
					l.Entries[i].Command = nil
				}
			}
		}
		return reflect.DeepEqual(x, y)
	})
}

func told(t *testing.T, what string, got []api.Letter, want ...api.Letter) {
	t.Helper()
	if !same(got, want) {
		t.Errorf("%s: %+v, not %+v", what, got, want)
	}
}

func state(t *testing.T, what string, p *tested, want api.Peer) {
	t.Helper()
	if got := p.State(); got != want {
		t.Errorf("%s: %+v, not %+v", what, got, want)
	}
}

func TestNew(t *testing.T) { // P12.1
	l := log.New(api.Base{Index: 7, Term: 2})
	p := start(3, 4, 5, l)
	state(t, "new", p, api.Peer{Id: 3, Term: 4, Vote: 5, Role: api.RoleFollower, Commit: 7})
	if hard, from := p.Kept(); hard || from != 0 {
		t.Error("nothing was set yet")
	}
	for i, p := range []*Peer{New(0, 0, 0, l), New(6, 0, 0, l), New(1, -1, 0, l), New(1, api.MaxTerm+1, 0, l), New(1, 0, -1, l), New(1, 0, 6, l), New(1, 0, 0, nil), New(1, 0, 0, &log.Log{})} {
		if p != nil {
			t.Errorf("%d: a peer", i)
		}
	}
	if New(5, api.MaxTerm, 0, l) == nil || New(1, 0, 5, l) == nil {
		t.Error("the edges")
	}
}

func TestNone(t *testing.T) { // R5
	for _, p := range []*Peer{nil, {}} {
		hard, from := p.Kept()
		i, l, err := p.Propose([]byte{1})
		m, other := p.Change(1)
		if p.State() != (api.Peer{}) || hard || from != 0 || p.Tick(1) != nil || p.Letter(api.Letter{Kind: 1, From: 1, Term: 1}) != nil || i != 0 || l != nil || err != api.ErrNil || m != nil || other != api.ErrNil || p.Install(api.Base{Index: 1}) || p.Compact(0) {
			t.Error("a peer that is none")
		}
	}
}

func TestAlone(t *testing.T) { // P12.2, example 1
	p := peer(1, 0, 0, cfg(r{1}))
	told(t, "nine ticks", ticks(p, 9, 0))
	state(t, "nine ticks", p, api.Peer{Id: 1, Role: api.RoleFollower})
	told(t, "ten ticks", p.Tick(0))
	state(t, "ten ticks", p, api.Peer{Id: 1, Term: 1, Vote: 1, Role: api.RoleLeader, Lead: 1, Commit: 1})
	if hard, from := p.Kept(); !hard || from != 1 {
		t.Errorf("%v, %d", hard, from)
	}
	if hard, from := p.Kept(); hard || from != 0 {
		t.Errorf("%v, %d", hard, from)
	}
	if e, _ := p.log.At(1); e.Kind != api.EntryNothing || e.Term != 1 {
		t.Errorf("%v", e)
	}
	index, out, err := p.Propose([]byte("a"), []byte("b"))
	if index != 3 || len(out) > 0 || err != api.OK || p.State().Commit != 3 {
		t.Errorf("%d, %v, %d", index, out, err)
	}
	if _, from := p.Kept(); from != 2 {
		t.Errorf("%d", from)
	}
}

func TestAsks(t *testing.T) { // P12.2
	p := peer(2, 3, 0, cfg(r{1, 2, 4}, r{2, 5}, nil, r{1, 2, 4}), 1, 2)
	out := ticks(p, 10, 13)
	ask := api.Letter{Kind: api.LetterAsk, From: 2, Term: 4, Index: 2, LogTerm: 2}
	var want []api.Letter
	for _, n := range []int{1, 4, 5} {
		ask.To = n
		want = append(want, ask)
	}
	told(t, "ten ticks", out, want...)
	state(t, "ten ticks", p, api.Peer{Id: 2, Term: 4, Vote: 2, Role: api.RoleCandidate})
	told(t, "wait 13", ticks(p, 12, 0))
	if out := p.Tick(-5); len(out) != 3 || out[0].Term != 5 {
		t.Errorf("%v", out)
	}
	told(t, "wait 10", ticks(p, 9, 0))
	if out := p.Tick(19); len(out) != 3 || out[0].Term != 6 {
		t.Errorf("%v", out)
	}
	told(t, "wait 19", ticks(p, 18, 0))
	if out := p.Tick(math.MinInt); len(out) != 3 {
		t.Errorf("%v", out)
	}
}

func TestWhoMayNotAsk(t *testing.T) { // P12.2
	for i, p := range []*tested{peer(3, 0, 0, cfg(r{1, 2})), peer(3, 0, 0, cfg(r{1, 2}, nil, r{3}, r{1, 3})), peer(1, 0, 0, cfg()), peer(1, api.MaxTerm, 0, cfg(r{1}))} {
		told(t, "no candidate", ticks(p, 50, 0))
		if p.State().Role != api.RoleFollower {
			t.Errorf("%d", i)
		}
	}
	// one that is left out by an entry that is not committed may ask
	p := peer(3, 1, 0, cfg(r{3}))
	p.log.Put(api.Entry{Term: 1, Kind: api.EntryConfig, Config: cfg(r{1, 2})})
	if out := ticks(p, 10, 0); len(out) != 2 || out[0].To != 1 || out[1].To != 2 || out[0].Index != 1 {
		t.Errorf("%v", out)
	}
	for _, n := range []int{1, 2} {
		p.Letter(api.Letter{Kind: api.LetterVote, From: n, To: 3, Term: 2, Ok: true})
	}
	if p.State().Role != api.RoleLeader {
		t.Error("leads on till that is committed")
	}
	ack(p, 1, 2)
	ack(p, 2, 2)
	state(t, "left out", p, api.Peer{Id: 3, Term: 2, Vote: 3, Role: api.RoleFollower, Commit: 2})
	told(t, "left out", ticks(p, 50, 0))
}

func TestForgetsTheLeader(t *testing.T) { // P12.2
	p := peer(2, 1, 0, cfg(r{1}))
	p.Letter(api.Letter{Kind: api.LetterAppend, From: 1, To: 2, Term: 1})
	if p.State().Lead != 1 {
		t.Error("knows whom it follows")
	}
	ticks(p, 9, 0)
	if p.State().Lead != 1 {
		t.Error("nine ticks")
	}
	ticks(p, 1, 0)
	if p.State().Lead != 0 {
		t.Error("ten ticks")
	}
}

func TestWins(t *testing.T) { // P12.3, 4
	p := peer(1, 0, 0, cfg(r{1, 2, 3, 4, 5}), 0, 0)
	ticks(p, 10, 0)
	vote := func(from int, ok bool) []api.Letter {
		return p.Letter(api.Letter{Kind: api.LetterVote, From: from, To: 1, Term: 1, Ok: ok})
	}
	told(t, "no", vote(2, false))
	told(t, "one", vote(2, true))
	told(t, "twice", vote(2, true))
	told(t, "no", vote(3, false))
	var want []api.Letter
	for n := 2; n <= 5; n++ {
		want = append(want, api.Letter{Kind: api.LetterAppend, From: 1, To: n, Term: 1, Index: 2, Entries: []api.Entry{empty(1)}})
	}
	told(t, "leads", vote(4, true), want...)
	state(t, "leads", p, api.Peer{Id: 1, Term: 1, Vote: 1, Role: api.RoleLeader, Lead: 1})
	told(t, "leads already", vote(5, true))
}

func TestVotesOfJoint(t *testing.T) { // P12.3, 4
	p := peer(1, 0, 0, cfg(r{1, 2}, r{3, 4, 5}, nil, r{1, 2}))
	ticks(p, 10, 0)
	for _, n := range []int{2, 3} {
		p.Letter(api.Letter{Kind: api.LetterVote, From: n, To: 1, Term: 1, Ok: true})
	}
	if p.State().Role != api.RoleCandidate {
		t.Error("one of three of Old")
	}
	p.Letter(api.Letter{Kind: api.LetterVote, From: 5, To: 1, Term: 1, Ok: true})
	if p.State().Role != api.RoleLeader {
		t.Error("both agree")
	}
}

func TestWrongLetters(t *testing.T) { // P12.3
	for i, c := range []func(*api.Letter){
		func(x *api.Letter) { x.To = 2 }, func(x *api.Letter) { x.From = 1 }, func(x *api.Letter) { x.From = 0 }, func(x *api.Letter) { x.From = 6 }, func(x *api.Letter) { x.Term = 0 }, func(x *api.Letter) { x.Term = api.MaxTerm + 1 },
		func(x *api.Letter) { x.Index = -1 }, func(x *api.Letter) { x.LogTerm = -1 }, func(x *api.Letter) { x.Commit = -1 }, func(x *api.Letter) { x.Size = -1 }, func(x *api.Letter) { x.At = -1 },
		func(x *api.Letter) { x.Index = api.MaxIndex + 1 }, func(x *api.Letter) { x.LogTerm = api.MaxIndex + 1 }, func(x *api.Letter) { x.Commit = api.MaxIndex + 1 }, func(x *api.Letter) { x.Size = api.MaxIndex + 1 }, func(x *api.Letter) { x.At = api.MaxIndex + 1 },
		func(x *api.Letter) { x.Kind = 0 }, func(x *api.Letter) { x.Kind = api.LetterPropose }, func(x *api.Letter) { x.Kind = api.LetterAnswer }, func(x *api.Letter) { x.Kind = 200 },
	} {
		for kind := api.LetterAsk; kind <= api.LetterGot; kind++ {
			p := peer(1, 1, 0, cfg(r{1, 2}))
			x := api.Letter{Kind: kind, From: 2, To: 1, Term: 5}
			c(&x)
			if out := p.Letter(x); len(out) > 0 || p.State() != (api.Peer{Id: 1, Term: 1, Role: api.RoleFollower}) {
				t.Errorf("%d: %v", i, out)
			}
		}
	}
}

func TestHigherTerms(t *testing.T) { // P12.3, 1
	for kind := api.LetterAsk; kind <= api.LetterGot; kind++ {
		p := leader(t, cfg(r{1, 2, 3}))
		ticks(p, 10, 0) // nobody answers
		p.Letter(api.Letter{Kind: kind, From: 2, To: 1, Term: 7, Index: 9})
		s := p.State()
		if hard, _ := p.Kept(); s.Term != 7 || s.Role != api.RoleFollower || !hard {
			t.Errorf("kind %d: %+v", kind, s)
		}
		if s.Vote != 0 && kind != api.LetterAsk || s.Lead != 0 && kind != api.LetterAppend && kind != api.LetterPiece {
			t.Errorf("kind %d: %+v", kind, s)
		}
	}
}

func TestHeardLately(t *testing.T) { // P12.3, 1
	ask := api.Letter{Kind: api.LetterAsk, From: 3, To: 2, Term: 9, Index: 9, LogTerm: 9}
	p := peer(2, 1, 0, cfg(r{1, 2, 3}))
	p.Letter(api.Letter{Kind: api.LetterPiece, From: 1, To: 2, Term: 1})
	ticks(p, 9, 0)
	told(t, "heard nine ticks ago", p.Letter(ask))
	if p.State().Term != 1 {
		t.Error("its Term")
	}
	p = peer(2, 1, 0, cfg(r{1}))
	p.Letter(api.Letter{Kind: api.LetterPiece, From: 1, To: 2, Term: 1})
	ticks(p, 10, 0)
	told(t, "heard ten ticks ago", p.Letter(ask), api.Letter{Kind: api.LetterVote, From: 2, To: 3, Term: 9, Ok: true})

	ask.To = 1
	l := leader(t, cfg(r{1, 2, 3, 4, 5}))
	ticks(l, 5, 0)
	ack(l, 4, 0)
	ticks(l, 4, 0)
	told(t, "a leader that all answered nine ticks ago", l.Letter(ask))
	ticks(l, 1, 0)
	ack(l, 5, 0)
	told(t, "a leader that two answered", l.Letter(ask))
	ticks(l, 5, 0)
	told(t, "a leader that one answered", l.Letter(ask), api.Letter{Kind: api.LetterVote, From: 1, To: 3, Term: 9, Ok: true})
	alone := leader(t, cfg(r{1}))
	ticks(alone, 30, 0)
	told(t, "a leader alone", alone.Letter(ask))
}

func TestLowerTerms(t *testing.T) { // P12.3, 2
	p := peer(1, 5, 0, cfg(r{1, 2}))
	letter := func(kind api.LetterKind) []api.Letter {
		return p.Letter(api.Letter{Kind: kind, From: 2, To: 1, Term: 4, Index: 3, LogTerm: 9, Ok: true})
	}
	told(t, "ask", letter(api.LetterAsk), api.Letter{Kind: api.LetterVote, From: 1, To: 2, Term: 5})
	told(t, "append", letter(api.LetterAppend), api.Letter{Kind: api.LetterAck, From: 1, To: 2, Term: 5})
	told(t, "piece", letter(api.LetterPiece), api.Letter{Kind: api.LetterAck, From: 1, To: 2, Term: 5})
	for _, kind := range []api.LetterKind{api.LetterVote, api.LetterAck, api.LetterGot} {
		told(t, "others", letter(kind))
	}
	state(t, "late letters", p, api.Peer{Id: 1, Term: 5, Role: api.RoleFollower})
}

func TestGivesVotes(t *testing.T) { // P12.3, 3
	for i, c := range []struct {
		vote, index, term int
		ok                bool
	}{{0, 2, 3, true}, {2, 2, 3, true}, {3, 2, 3, false}, {0, 1, 3, false}, {0, 3, 3, true}, {0, 9, 2, false}, {0, 0, 4, true}} {
		p := peer(1, 5, c.vote, cfg(r{1, 2, 3}), 1, 3)
		ticks(p, 9, 0)
		told(t, "ask", p.Letter(api.Letter{Kind: api.LetterAsk, From: 2, To: 1, Term: 5, Index: c.index, LogTerm: c.term}), api.Letter{Kind: api.LetterVote, From: 1, To: 2, Term: 5, Ok: c.ok})
		want := c.vote
		if c.ok {
			want = 2
		}
		if hard, _ := p.Kept(); p.State().Vote != want || hard != c.ok {
			t.Errorf("%d: %d, %v", i, p.State().Vote, hard)
		}
		if asks := p.Tick(0); (len(asks) == 0) != c.ok {
			t.Errorf("%d: who gives its vote waits anew: %v", i, asks)
		}
	}
	p := peer(1, 0, 0, cfg(r{1, 2}))
	ticks(p, 10, 0)
	told(t, "a candidate", p.Letter(api.Letter{Kind: api.LetterAsk, From: 2, To: 1, Term: 1, Index: 9, LogTerm: 1}), api.Letter{Kind: api.LetterVote, From: 1, To: 2, Term: 1})
}

func TestTakesEntries(t *testing.T) { // P12.3, 5
	ok := func(index int) []api.Letter {
		return []api.Letter{{Kind: api.LetterAck, From: 2, To: 1, Term: 4, Ok: true, Index: index}}
	}
	no := func(index int) []api.Letter {
		return []api.Letter{{Kind: api.LetterAck, From: 2, To: 1, Term: 4, Index: index}}
	}
	for i, c := range []struct {
		index, term, commit int
		terms               []int
		want                []api.Letter
		log                 []int
		committed, from     int
	}{
		{8, 3, 0, nil, ok(8), r{2, 2, 3, 3}, 6, 0},
		{8, 3, 99, r{4, 4}, ok(10), r{2, 2, 3, 3, 4, 4}, 10, 9},
		{8, 3, 9, r{4, 4}, ok(10), r{2, 2, 3, 3, 4, 4}, 9, 9},
		{7, 3, 7, r{4}, ok(8), r{2, 2, 3, 4}, 7, 8},
		{6, 2, 5, r{3, 3}, ok(8), r{2, 2, 3, 3}, 6, 0},
		{6, 2, 7, r{3}, ok(7), r{2, 2, 3, 3}, 7, 0},
		{5, 2, 5, r{2, 4}, ok(7), r{2, 2, 4}, 6, 7},
		{5, 2, 9, r{3}, nil, r{2, 2, 3, 3}, 6, 0},
		{5, 2, 5, nil, ok(5), r{2, 2, 3, 3}, 6, 0},
		{4, 2, 9, r{2}, ok(5), r{2, 2, 3, 3}, 6, 0},
		{0, 0, 9, r{2}, ok(5), r{2, 2, 3, 3}, 6, 0},
		{8, 2, 9, r{4}, no(7), r{2, 2, 3, 3}, 6, 0},
		{5, 1, 9, r{4}, no(4), r{2, 2, 3, 3}, 6, 0},
		{9, 3, 9, r{4}, no(8), r{2, 2, 3, 3}, 6, 0},
		{20, 3, 9, r{4}, no(8), r{2, 2, 3, 3}, 6, 0},
		{8, 3, 9, r{5}, nil, r{2, 2, 3, 3}, 6, 0},
		{8, 3, 9, r{2}, nil, r{2, 2, 3, 3}, 6, 0},
		{8, 3, 9, r{4, 3}, nil, r{2, 2, 3, 3}, 6, 0},
		{7, 3, 9, r{3, 3, 4}, ok(10), r{2, 2, 3, 3, 3, 4}, 9, 9},
	} {
		l := log.New(api.Base{Index: 5, Term: 2, Config: cfg(r{1, 2})})
		l.Put(empty(2), empty(3), empty(3))
		p := start(2, 4, 0, l)
		p.Letter(api.Letter{Kind: api.LetterAppend, From: 1, To: 2, Term: 4, Index: 8, LogTerm: 3, Commit: 6})
		p.Kept()
		var entries []api.Entry
		for _, term := range c.terms {
			entries = append(entries, empty(term))
		}
		out := p.Letter(api.Letter{Kind: api.LetterAppend, From: 1, To: 2, Term: 4, Index: c.index, LogTerm: c.term, Commit: c.commit, Entries: entries})
		var terms []int
		for at := 5; at <= l.Last(); at++ {
			term, _ := l.Term(at)
			terms = append(terms, term)
		}
		hard, from := p.Kept()
		if !same(out, c.want) || !slices.Equal(terms, c.log) || p.State().Commit != c.committed || hard || from != c.from {
			t.Errorf("%d: %+v, %v, commit %d, from %d", i, out, terms, p.State().Commit, from)
		}
	}
	p := peer(2, 4, 0, cfg(r{1, 2}))
	told(t, "a term 0 of entries", p.Letter(api.Letter{Kind: api.LetterAppend, From: 1, To: 2, Term: 4, Entries: []api.Entry{empty(0)}}))
	told(t, "index 0 of another term", p.Letter(api.Letter{Kind: api.LetterAppend, From: 1, To: 2, Term: 4, LogTerm: 1}), api.Letter{Kind: api.LetterAck, From: 2, To: 1, Term: 4, Index: -1})
}

func TestFollows(t *testing.T) { // P12.3, 5
	for _, kind := range []api.LetterKind{api.LetterAppend, api.LetterPiece} {
		p := peer(2, 0, 0, cfg(r{1, 2, 3}))
		ticks(p, 10, 0)
		p.Letter(api.Letter{Kind: kind, From: 3, To: 2, Term: 1, Index: 7})
		state(t, "a candidate that hears of a leader", p, api.Peer{Id: 2, Term: 1, Vote: 2, Role: api.RoleFollower, Lead: 3})
		told(t, "waits anew", ticks(p, 9, 0))
		if len(p.Tick(0)) != 2 {
			t.Error("asks anew")
		}
		l := leader(t, cfg(r{1, 2, 3}))
		told(t, "a leader", l.Letter(api.Letter{Kind: kind, From: 3, To: 1, Term: 1, Entries: []api.Entry{empty(1)}}))
		state(t, "a leader", l, api.Peer{Id: 1, Term: 1, Vote: 1, Role: api.RoleLeader, Lead: 1})
	}
}

func TestLeaderSends(t *testing.T) { // P12.2, P12.3, 6
	p := leader(t, cfg(r{1, 2, 3}))
	app := func(to, index, term, commit int, terms ...int) api.Letter {
		x := api.Letter{Kind: api.LetterAppend, From: 1, To: to, Term: 1, Index: index, LogTerm: term, Commit: commit}
		for _, term := range terms {
			x.Entries = append(x.Entries, empty(term))
		}
		return x
	}
	told(t, "one tick", p.Tick(0))
	told(t, "two ticks", p.Tick(0), app(2, 0, 0, 0, 1), app(3, 0, 0, 0, 1))
	told(t, "ack", ack(p, 2, 1))
	if p.State().Commit != 1 {
		t.Error("two of three have it")
	}
	told(t, "beyond the last one", ack(p, 3, 2))
	told(t, "two ticks", ticks(p, 2, 0), app(2, 1, 1, 1), app(3, 0, 0, 1, 1))
	told(t, "ack of nothing", ack(p, 3, 0), app(3, 0, 0, 1, 1))
	told(t, "an old ack", ack(p, 2, 0))
	index, out, err := p.Propose([]byte("x"))
	x := app(2, 1, 1, 1)
	x.Entries = []api.Entry{command(1, "x")}
	y := app(3, 0, 0, 1, 1)
	y.Entries = append(y.Entries, command(1, "x"))
	if told(t, "propose", out, x, y); index != 2 || err != api.OK {
		t.Errorf("%d, %d", index, err)
	}
	told(t, "an ack of what was sent ahead", ack(p, 3, 1), func() api.Letter { x := x; x.To = 3; return x }())
	told(t, "ack", ack(p, 3, 2))
	if p.State().Commit != 2 {
		t.Error("two of three have it")
	}
	told(t, "two ticks", ticks(p, 2, 0), func() api.Letter { x := x; x.Commit = 2; return x }(), app(3, 2, 1, 2))
}

func TestRefused(t *testing.T) { // P12.3, 6
	p := peer(1, 4, 0, cfg(r{1, 2, 3}), 1, 1, 2, 2, 3)
	ticks(p, 10, 0)
	p.Letter(api.Letter{Kind: api.LetterVote, From: 2, To: 1, Term: 5, Ok: true})
	no := func(index int) int {
		out := p.Letter(api.Letter{Kind: api.LetterAck, From: 2, To: 1, Term: 5, Index: index})
		if len(out) != 1 || out[0].Kind != api.LetterAppend || out[0].To != 2 || len(out[0].Entries) != 6-out[0].Index {
			t.Fatalf("%+v", out)
		}
		return out[0].Index
	}
	for _, c := range [][2]int{{9, 4}, {4, 3}, {1, 1}, {1, 0}, {0, 0}, {9, 0}} {
		if got := no(c[0]); got != c[1] {
			t.Errorf("%v: %d", c, got)
		}
	}
	if out := ack(p, 2, 3); len(out) != 1 || out[0].Index != 3 {
		t.Errorf("%+v", out)
	}
	if got := no(0); got != 3 {
		t.Errorf("below what it has: %d", got)
	}
	if p.State().Commit != 0 {
		t.Error("an entry of an older term is not committed by its own")
	}
	ack(p, 2, 6)
	if p.State().Commit != 6 {
		t.Error("with one of its own it is")
	}
}

func TestLongLetters(t *testing.T) { // sending
	p := leader(t, cfg(r{1, 2}))
	ack(p, 2, 1)
	half := make([]byte, api.MaxCommand/2)
	_, out, _ := p.Propose(half, half, []byte("x"))
	if len(out[0].Entries) != 2 {
		t.Errorf("%d entries", len(out[0].Entries))
	}
	if out = ack(p, 2, 3); len(out) != 1 || len(out[0].Entries) != 1 {
		t.Errorf("%+v", out)
	}
	ack(p, 2, 4)
	if _, out, _ = p.Propose(make([]byte, api.MaxCommand+9), nil); len(out[0].Entries) != 1 {
		t.Errorf("%d entries", len(out[0].Entries))
	}
	ack(p, 2, 6)
	if _, out, _ = p.Propose(make([][]byte, 40)...); len(out[0].Entries) != 30 {
		t.Errorf("%d entries", len(out[0].Entries))
	}
}

func TestPieces(t *testing.T) { // sending, P12.3, 7
	base := api.Base{Index: 5, Term: 2, Config: cfg(r{1, 2, 3})}
	p := start(1, 2, 0, log.New(base))
	ticks(p, 10, 0)
	p.Letter(api.Letter{Kind: api.LetterVote, From: 3, To: 1, Term: 3, Ok: true})
	no := p.Letter(api.Letter{Kind: api.LetterAck, From: 2, To: 1, Term: 3, Index: 0})
	piece := api.Letter{Kind: api.LetterPiece, From: 1, To: 2, Term: 3, Base: base}
	told(t, "behind the base", no, piece)
	got := func(index, at, size int) []api.Letter {
		return p.Letter(api.Letter{Kind: api.LetterGot, From: 2, To: 1, Term: 3, Index: index, At: at, Size: size})
	}
	told(t, "another base", got(4, 9, 20))
	piece.At = 9
	told(t, "got", got(5, 9, 20), piece)
	if out := ticks(p, 2, 0); len(out) != 2 || !same(out[:1], []api.Letter{piece}) || out[1].Kind != api.LetterAppend {
		t.Errorf("%+v", out)
	}
	piece.At = 0
	told(t, "from the beginning", got(5, 0, 20), piece)
	whole := api.Letter{Kind: api.LetterAppend, From: 1, To: 2, Term: 3, Index: 5, LogTerm: 2, Commit: 5, Entries: []api.Entry{empty(3)}}
	told(t, "all", got(5, 20, 20), whole)
	told(t, "refused again", p.Letter(api.Letter{Kind: api.LetterAck, From: 2, To: 1, Term: 3, Index: 0}), whole)
	f := peer(2, 3, 0, cfg(r{1, 2}))
	told(t, "of no leader", f.Letter(api.Letter{Kind: api.LetterGot, From: 1, To: 2, Term: 3}))
	told(t, "of no leader", f.Letter(api.Letter{Kind: api.LetterAck, From: 1, To: 2, Term: 3, Ok: true}))
}

func TestGotIsHeard(t *testing.T) { // P12.3, 6, 7
	for _, kind := range []api.LetterKind{api.LetterAck, api.LetterGot} {
		p := leader(t, cfg(r{1, 2, 3}))
		ticks(p, 9, 0)
		p.Letter(api.Letter{Kind: kind, From: 2, To: 1, Term: 1, Index: 77, Ok: true})
		ticks(p, 9, 0)
		p.Letter(api.Letter{Kind: api.LetterAsk, From: 3, To: 1, Term: 2})
		if p.State().Role != api.RoleLeader {
			t.Errorf("kind %d is not heard", kind)
		}
	}
}

func TestErrors(t *testing.T) { // P12.4
	p := peer(1, 1, 0, cfg(r{1, 2}))
	if i, out, err := p.Propose(); i != 0 || len(out) > 0 || err != api.ErrLeader {
		t.Errorf("%d", err)
	}
	if out, err := p.Change(); len(out) > 0 || err != api.ErrLeader {
		t.Errorf("%d", err)
	}
	l := leader(t, cfg(r{1, 2}))
	if i, out, err := l.Propose(); i != 0 || len(out) > 0 || err != api.ErrArg {
		t.Errorf("%d", err)
	}
	if out, err := l.Change(0); len(out) > 0 || err != api.ErrChange {
		t.Errorf("%d", err)
	}
	ack(l, 2, 1)
	for _, c := range []struct {
		want []int
		err  api.Errno
	}{{nil, api.ErrArg}, {r{0}, api.ErrArg}, {r{2, 1}, api.ErrArg}, {r{1, 2}, api.ErrThere}, {r{3}, api.OK}, {r{3}, api.ErrChange}} {
		if out, err := l.Change(c.want...); err != c.err || err != api.OK && len(out) > 0 {
			t.Errorf("%v: %d", c.want, err)
		}
	}
}

func TestChange(t *testing.T) { // P12.4, to commit
	p := leader(t, cfg(r{1, 2}))
	ack(p, 2, 1)
	config := func() api.Config { c, _ := p.log.Config(); return c }
	out, err := p.Change(2, 3)
	if err != api.OK || len(out) != 2 || out[0].To != 2 || out[1].To != 3 || len(out[0].Entries) != 1 || len(out[1].Entries) != 2 && out[1].Index != 0 {
		t.Fatalf("%+v, %d", out, err)
	}
	if !reflect.DeepEqual(config().Learners, r{3}) {
		t.Errorf("%+v", config())
	}
	if _, from := p.Kept(); from != 2 {
		t.Errorf("from %d", from)
	}
	told(t, "committed, but the learner is behind", ack(p, 2, 2))
	if p.State().Commit != 2 || len(config().Old) > 0 {
		t.Errorf("%+v", config())
	}
	out = ack(p, 3, 2) // the learner has it: joint
	if len(out) != 2 || out[0].To != 2 || out[1].To != 3 || !slices.Equal(config().Voters, r{2, 3}) || !slices.Equal(config().Old, r{1, 2}) {
		t.Fatalf("%+v, %+v", out, config())
	}
	told(t, "half of both", ack(p, 2, 3))
	if p.State().Commit != 3 && len(config().Old) == 0 {
		t.Errorf("%+v", config())
	}
	out = ack(p, 3, 3) // both agree: the new ones alone
	if len(out) != 2 || !slices.Equal(config().Voters, r{2, 3}) || len(config().Old)+len(config().Want) > 0 {
		t.Fatalf("%+v, %+v", out, config())
	}
	ack(p, 2, 4)
	if p.State().Role != api.RoleLeader {
		t.Error("leads on till that is committed")
	}
	told(t, "left out", ack(p, 3, 4))
	state(t, "left out", p, api.Peer{Id: 1, Term: 1, Vote: 1, Role: api.RoleFollower, Commit: 4})
}

func TestChangeAlone(t *testing.T) { // to commit
	p := leader(t, cfg(r{1}))
	p.Change(1, 2)
	ack(p, 2, 2)
	ack(p, 2, 3)
	c, at := p.log.Config()
	if !slices.Equal(c.Voters, r{1, 2}) || len(c.Old)+len(c.Want) > 0 || at != 4 || p.State().Commit != 3 {
		t.Errorf("%+v at %d", c, at)
	}
	ack(p, 2, 4)
	if out, err := p.Change(1); err != api.OK || len(out) != 1 {
		t.Errorf("%+v, %d", out, err)
	}
	if out := ack(p, 2, 5); len(out) != 1 || p.State().Commit != 5 {
		t.Errorf("%+v", out)
	}
	told(t, "the new ones alone", ack(p, 2, 6))
	if c, _ = p.log.Config(); !slices.Equal(c.Voters, r{1}) || len(c.Old) > 0 || p.State().Commit != 7 {
		t.Errorf("%+v, %d", c, p.State().Commit)
	}
}

func TestWantedAgain(t *testing.T) { // to commit: a leader that is left out, and wanted again ahead of that
	p := leader(t, cfg(r{1, 2}))
	ack(p, 2, 1)
	p.Change(2)
	ack(p, 2, 2)
	ack(p, 2, 3)
	if c, at := p.log.Config(); at != 4 || !slices.Equal(c.Voters, r{2}) || len(c.Want) > 0 {
		t.Fatalf("%+v at %d", c, at)
	}
	if _, err := p.Change(1, 2); err != api.OK {
		t.Fatalf("%d", err)
	}
	for i := 5; i <= 7; i++ {
		ack(p, 2, i)
	}
	if c, _ := p.log.Config(); !slices.Equal(c.Voters, r{1, 2}) || len(c.Old)+len(c.Want)+len(c.Learners) > 0 || p.State().Commit != 7 || p.State().Role != api.RoleLeader {
		t.Errorf("%+v, %+v", c, p.State())
	}
}

func TestInstallCompact(t *testing.T) { // P12.5
	l := log.New(api.Base{Config: cfg(r{1, 2})})
	p := start(2, 1, 0, l)
	p.Letter(api.Letter{Kind: api.LetterAppend, From: 1, To: 2, Term: 1, Commit: 2, Entries: []api.Entry{empty(1), empty(1), empty(1)}})
	if p.Compact(3) || p.Compact(-1) || !p.Compact(1) || l.Base().Index != 1 || !p.Compact(2) || p.Compact(1) {
		t.Error("compact")
	}
	if p.Install(api.Base{Index: 2, Term: 1}) || p.State().Commit != 2 {
		t.Error("a base that it has")
	}
	if !p.Install(api.Base{Index: 7, Term: 1, Config: cfg(r{3})}) || p.State().Commit != 7 || l.Last() != 7 {
		t.Error("install")
	}
	if p.Install(api.Base{Index: 5, Term: 1}) || p.State().Commit != 7 {
		t.Error("a base of before")
	}
}

func TestMemory(t *testing.T) { // R3
	p := leader(t, cfg(r{1, 2, 3}))
	b := []byte("abc")
	_, out, _ := p.Propose(b)
	b[0] = 'x'
	out[0].Entries[1].Command[0] = 'y'
	if e, _ := p.log.At(2); string(e.Command) != "abc" || string(out[1].Entries[1].Command) != "abc" {
		t.Error("memory is shared")
	}
}

package raft

import (
	"slices"

	"watershed/api"
	"watershed/quorum"
)

// upTo tells whether all are from 0 to MaxIndex.
func upTo(l ...int) bool {
	for _, n := range l {
		if n < 0 || n > api.MaxIndex {
			return false
		}
	}
	return true
}

// mine tells whether it is a letter that a peer takes.
func (p *Peer) mine(x api.Letter) bool {
	return x.To == p.Id && x.From != p.Id && node(x.From) && x.Term >= 1 && x.Term <= api.MaxTerm &&
		upTo(x.Index, x.LogTerm, x.Commit, x.Size, x.At) && x.Kind >= api.LetterAsk && x.Kind <= api.LetterGot
}

// Letter takes a letter.
func (p *Peer) Letter(x api.Letter) []api.Letter {
	if p.none() || !p.mine(x) {
		return nil
	}
	if x.Term > p.Term {
		if x.Kind == api.LetterAsk && p.heardLately() {
			return nil
		}
		p.set(x.Term, 0)
		p.Role, p.Lead = api.RoleFollower, 0
	}
	if x.Term < p.Term {
		return p.late(x)
	}
	kinds := map[api.LetterKind]func(api.Letter) []api.Letter{
		api.LetterAsk:    p.asked,
		api.LetterVote:   p.voted,
		api.LetterAppend: p.appended,
		api.LetterAck:    p.acked,
		api.LetterPiece:  p.pieced,
		api.LetterGot:    p.got,
	}
	return kinds[x.Kind](x)
}

// answer is a letter of a kind back to whom x is from.
func (p *Peer) answer(x api.Letter, kind api.LetterKind, ok bool, index int) []api.Letter {
	return []api.Letter{{Kind: kind, From: p.Id, To: x.From, Term: p.Term, Ok: ok, Index: index}}
}

// late tells one of a Term that is gone so.
func (p *Peer) late(x api.Letter) []api.Letter {
	switch x.Kind {
	case api.LetterAsk:
		return p.answer(x, api.LetterVote, false, 0)
	case api.LetterAppend, api.LetterPiece:
		return p.answer(x, api.LetterAck, false, 0)
	}
	return nil
}

func (p *Peer) asked(x api.Letter) []api.Letter {
	last := p.log.Last()
	term, _ := p.log.Term(last)
	ok := p.Role == api.RoleFollower && (p.Vote == 0 || p.Vote == x.From) &&
		(x.LogTerm > term || x.LogTerm == term && x.Index >= last)
	if ok {
		p.set(p.Term, x.From)
		p.since = 0
	}
	return p.answer(x, api.LetterVote, ok, 0)
}

func (p *Peer) voted(x api.Letter) []api.Letter {
	if p.Role != api.RoleCandidate || !x.Ok {
		return nil
	}
	if !slices.Contains(p.votes, x.From) {
		p.votes = append(p.votes, x.From)
	}
	if !quorum.Agrees(p.config(), p.votes...) {
		return nil
	}
	return p.lead()
}

// follow makes it a follower of whom x is from; false, if it leads itself.
func (p *Peer) follow(x api.Letter) bool {
	if p.leads() {
		return false
	}
	p.Role, p.Lead = api.RoleFollower, x.From
	p.heard, p.since = 0, 0
	return true
}

func (p *Peer) pieced(x api.Letter) []api.Letter {
	p.follow(x)
	return nil
}

func (p *Peer) appended(x api.Letter) []api.Letter {
	if !p.follow(x) {
		return nil
	}
	if base := p.log.Base().Index; x.Index < base {
		return p.answer(x, api.LetterAck, true, base)
	}
	if term, is := p.log.Term(x.Index); !is || term != x.LogTerm {
		return p.answer(x, api.LetterAck, false, min(x.Index-1, p.log.Last()))
	}
	if !p.mayTake(x) {
		return nil
	}
	first, _ := p.log.Take(x.Index+1, x.Entries...)
	p.took(first)
	place := x.Index + len(x.Entries)
	p.Commit = max(p.Commit, min(x.Commit, place))
	return p.answer(x, api.LetterAck, true, place)
}

// mayTake tells whether the terms of x's entries are such as a leader sends, and none takes the place of what is committed.
func (p *Peer) mayTake(x api.Letter) bool {
	ahead := max(x.LogTerm, 1)
	for _, e := range x.Entries {
		if e.Term < ahead || e.Term > x.Term {
			return false
		}
		ahead = e.Term
	}
	for i, e := range x.Entries {
		at := x.Index + 1 + i
		if term, is := p.log.Term(at); is && term != e.Term {
			return at > p.Commit
		}
	}
	return true
}

func (p *Peer) acked(x api.Letter) []api.Letter {
	if !p.leads() {
		return nil
	}
	o := &p.others[x.From]
	o.quiet = 0
	if x.Ok {
		return p.has(x.From, x.Index)
	}
	o.next = max(min(o.next-1, x.Index+1), o.match+1)
	return p.send(x.From)
}

// has notes that a node has all up to an index.
func (p *Peer) has(from, index int) []api.Letter {
	if index > p.log.Last() {
		return nil
	}
	o := &p.others[from]
	o.match = max(o.match, index)
	o.next, o.piece = o.match+1, 0
	if p.commit() {
		return p.sendAll()
	}
	if p.leads() && o.next <= p.log.Last() {
		return p.send(from)
	}
	return nil
}

func (p *Peer) got(x api.Letter) []api.Letter {
	if !p.leads() {
		return nil
	}
	o := &p.others[x.From]
	o.quiet = 0
	if x.Index != p.log.Base().Index {
		return nil
	}
	if x.At >= x.Size {
		return p.has(x.From, x.Index)
	}
	o.piece = x.At
	return p.send(x.From)
}

package raft

import (
	"watershed/api"
	"watershed/quorum"
)

// lead makes it the leader of its Term.
func (p *Peer) lead() []api.Letter {
	p.Role, p.Lead, p.since = api.RoleLeader, p.Id, 0
	for n := range p.others {
		p.others[n] = other{next: p.log.Last() + 1}
	}
	p.put(api.Entry{Kind: api.EntryNothing})
	p.commit()
	return p.sendAll()
}

// entries is those from an index on that one letter may have.
func (p *Peer) entries(from int) []api.Entry {
	l := p.log.From(from, api.MaxEntries)
	bytes := 0
	for i, e := range l {
		bytes += len(e.Command)
		if i > 0 && bytes > api.MaxCommand {
			return l[:i:i]
		}
	}
	return l
}

// send is what a node is to be told next.
func (p *Peer) send(to int) []api.Letter {
	o := p.others[to]
	x := api.Letter{Kind: api.LetterAppend, From: p.Id, To: to, Term: p.Term}
	base := p.log.Base()
	if o.next <= base.Index {
		x.Kind, x.Base, x.At = api.LetterPiece, base, o.piece
		return []api.Letter{x}
	}
	term, is := p.log.Term(o.next - 1)
	if !is {
		term = -1
	}
	x.Index, x.LogTerm, x.Entries, x.Commit = o.next-1, term, p.entries(o.next), p.Commit
	return []api.Letter{x}
}

func (p *Peer) sendAll() []api.Letter {
	var out []api.Letter
	for _, n := range quorum.Nodes(p.config()) {
		if n != p.Id && node(n) {
			out = append(out, p.send(n)...)
		}
	}
	return out
}

// raise makes Commit the greatest index of its Term that enough nodes have.
func (p *Peer) raise() {
	for i := p.log.Last(); i > p.Commit; i-- {
		if term, _ := p.log.Term(i); term != p.Term {
			return
		}
		if p.agrees(func(o other) bool { return o.match >= i }) {
			p.Commit = i
			return
		}
	}
}

// caughtUp tells whether all learners have what is committed. One that C leaves out may lead, and be wanted again: itself has it.
func (p *Peer) caughtUp(c api.Config) bool {
	for _, n := range c.Learners {
		if n != p.Id && (!node(n) || p.others[n].match < p.Commit) {
			return false
		}
	}
	return true
}

// change goes on with a change of voters whose last step is committed, and tells whether it did.
func (p *Peer) change() bool {
	c, at := p.log.Config()
	if term, _ := p.log.Term(p.Commit); term != p.Term || at > p.Commit {
		return false
	}
	if len(c.Old) > 0 || len(c.Want) > 0 && p.caughtUp(c) {
		next, ok := quorum.Next(c)
		if ok {
			p.put(api.Entry{Kind: api.EntryConfig, Config: next})
		}
		return ok
	}
	if len(c.Want) == 0 && !quorum.Votes(c, p.Id) {
		p.Role, p.Lead = api.RoleFollower, 0
	}
	return false
}

// commit commits what can be, and tells whether that put anything (of which all are to be told then).
func (p *Peer) commit() bool {
	p.raise()
	put := false
	for p.change() {
		put = true
		p.raise()
	}
	return put
}

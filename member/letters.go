package member

import (
	"maps"

	"watershed/api"
	"watershed/image"
	"watershed/letter"
	"watershed/machine"
)

// Letter takes a letter.
func (m *Member) Letter(x api.Letter) ([]api.Letter, []Applied) {
	if m.dead() || !letter.Right(x) || x.Group != m.group || x.To != m.id {
		return nil, nil
	}
	kinds := map[api.LetterKind]func(api.Letter) ([]api.Letter, []Applied){
		api.LetterPropose: m.proposed,
		api.LetterAnswer:  m.answered,
		api.LetterPiece:   m.pieced,
	}
	take, is := kinds[x.Kind]
	if !is {
		take = m.other
	}
	return take(x)
}

func (m *Member) other(x api.Letter) ([]api.Letter, []Applied) { return m.end(m.peer.Letter(x)) }

func (m *Member) answered(api.Letter) ([]api.Letter, []Applied) { return nil, nil }

func (m *Member) proposed(x api.Letter) ([]api.Letter, []Applied) {
	index, l, err := m.Propose(x.Bytes)
	if err != api.OK {
		no := m.answer(x.From, x.Tag)
		no.Index = m.peer.State().Lead
		return []api.Letter{no}, nil
	}
	m.waits[index] = waiting{m.peer.State().Term, x.Tag, x.From}
	return m.end(l)
}

func (m *Member) pieced(x api.Letter) ([]api.Letter, []Applied) {
	l := m.peer.Letter(x)
	s := m.peer.State()
	if s.Term != x.Term || s.Lead != x.From {
		return m.end(l)
	}
	at := x.Size
	if x.Base.Index > s.Commit {
		if !m.keep() {
			return nil, nil
		}
		at = m.take(x)
		if m.halted {
			return nil, nil
		}
	}
	return m.end(l, api.Letter{Kind: api.LetterGot, Group: m.group, From: m.id, To: x.From, Term: s.Term, Index: x.Base.Index, Size: x.Size, At: at})
}

// take takes a piece, and what the pieces make, if that is a machine that could be saved; it tells how far they came.
func (m *Member) take(x api.Letter) int {
	at, whole, got := m.ferry.Take(x)
	if !whole {
		return at
	}
	state, is := machine.Read(m.group, got.Bytes)
	if !is || image.Save(m.disk, m.group, got) != api.OK {
		return 0
	}
	if !m.must(m.journal.Base(got.Base)) || !m.must(m.journal.Sync()) {
		return 0
	}
	m.Install(got.Base)
	m.machine, m.done, m.image = state, got.Base.Index, got
	maps.DeleteFunc(m.waits, func(index int, _ waiting) bool { return index <= m.done })
	return at
}

package world

import (
	"slices"

	"watershed/api"
	"watershed/node"
	"watershed/order"
)

// TaleKind: what a tale tells.
type TaleKind uint8

// Kinds of tales.
const (
	Called  TaleKind = 1
	Replied TaleKind = 2
	Led     TaleKind = 3
	Applied TaleKind = 4
	Owned   TaleKind = 5
	Decided TaleKind = 6
	Turned  TaleKind = 7
)

// Tale is one thing that has happened.
type Tale struct {
	Kind                     TaleKind
	Node, Group, Term, Index int
	Name                     api.Name
	Acts                     []api.Act
	Commit                   bool
	Reads                    []api.Read
	Stretch                  api.Stretch
	Shares                   api.Shares
	Command                  []byte
}

// part copies l to the end of a store that has room for it, and tells the copy, which nothing can grow into.
func part[T any](store *[]T, l []T) []T {
	if len(l) == 0 {
		return nil
	}
	from := len(*store)
	*store = append(*store, l...)
	return (*store)[from:len(*store):len(*store)]
}

// copyTales is tales in memory of their own: one store of each kind of lists, as there may be many tales.
func copyTales(l []Tale) []Tale {
	acts, reads, list, bytes := 0, 0, 0, 0
	for i := range l {
		t := &l[i]
		acts, reads, list, bytes = acts+len(t.Acts), reads+len(t.Reads), list+len(t.Shares.List), bytes+len(t.Command)
	}
	allActs, allReads, allShares, allBytes := make([]api.Act, 0, acts), make([]api.Read, 0, reads), make([]api.Share, 0, list), make([]byte, 0, bytes)
	out := slices.Clone(l)
	for i := range out {
		t := &out[i]
		t.Acts, t.Reads = part(&allActs, t.Acts), part(&allReads, t.Reads)
		t.Shares.List, t.Command = part(&allShares, t.Shares.List), part(&allBytes, t.Command)
	}
	return out
}

func (w *World) put(l ...Tale) { w.history = append(w.history, l...) }

// tell brings what a node told on its way, and into the history.
func (w *World) tell(n int, out node.Out) {
	w.net.Send(out.Letters...)
	for _, r := range out.Replies {
		w.put(Tale{Kind: Replied, Name: r.Name, Commit: r.Commit, Reads: r.Reads})
		w.open = slices.DeleteFunc(w.open, func(name api.Name) bool { return name == r.Name })
	}
	for _, d := range out.Told {
		w.put(Tale{Kind: Applied, Node: n, Group: d.Group, Index: d.Index, Command: d.Command})
		w.tellDecided(n, d)
	}
}

// tellDecided tells what a Decide was answered.
func (w *World) tellDecided(n int, d node.Deed) {
	x, _ := order.Get(d.Command)
	if x.Kind != order.Decide {
		return
	}
	if a, err := order.GetAnswer(d.Answer); err == api.OK && a.Err == api.OK {
		w.put(Tale{Kind: Decided, Node: n, Index: d.Index, Name: a.Name, Commit: a.Commit, Reads: a.Reads})
	}
}

// look tells of all nodes what is other than was told of them.
func (w *World) look() {
	for i, p := range w.places {
		if p.node == nil {
			continue
		}
		w.lookLed(i+1, p)
		for g := 1; g <= api.MaxGroups; g++ {
			w.lookOwned(i+1, p, g)
		}
		w.lookTurned(i+1, p)
	}
}

func (w *World) lookLed(n int, p *place) {
	for g := range api.MaxGroups + 1 {
		s := p.node.State(g)
		r := reign{n, g, s.Term}
		if _, is := w.reigns[r]; !is && s.Role == api.RoleLeader {
			w.reigns[r] = len(w.history)
			w.put(Tale{Kind: Led, Node: n, Group: g, Term: s.Term})
		}
	}
}

// further tells whether a group's machine may be other than when it was looked at last.
func (p *place) further(g int) bool {
	commit := p.node.State(g).Commit
	if commit == p.commits[g] {
		return false
	}
	p.commits[g] = commit
	return true
}

func (w *World) lookOwned(n int, p *place, g int) {
	if !p.further(g) {
		return
	}
	l := slices.DeleteFunc(p.node.Machine(g).Tract().Stretches(), func(x api.Stretch) bool { return x.State != api.StretchOpen })
	if slices.Equal(l, p.stretches[g]) {
		return
	}
	p.stretches[g] = l
	for _, x := range l {
		w.put(Tale{Kind: Owned, Node: n, Group: g, Stretch: x})
	}
}

func (w *World) lookTurned(n int, p *place) {
	if !p.further(0) {
		return
	}
	s := p.node.Machine(0).Registry().Shares()
	if s.Epoch != p.epoch {
		p.epoch = s.Epoch
		w.put(Tale{Kind: Turned, Node: n, Shares: s})
	}
}

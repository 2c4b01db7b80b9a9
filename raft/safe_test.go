package raft_test

import (
	"strconv"
	"testing"

	"watershed/api"
	"watershed/log"
)

// group is peers whose letters are lost, late, doubled, and which stop and go on from what was kept.
type group struct {
	t         *testing.T
	seed      uint32
	peers     [6]*tested
	way       []api.Letter
	leaders   map[int]int    // of each term who led
	committed map[int]string // of each index what was committed
	commands  int
	changes   int
}

func (g *group) next(n int) int {
	g.seed = g.seed*1664525 + 1013904223
	return int(g.seed>>12) % n
}

func text(e api.Entry) string {
	s := strconv.Itoa(e.Term) + "/" + strconv.Itoa(int(e.Kind)) + "/" + string(e.Command)
	for _, row := range [][]int{e.Config.Voters, e.Config.Old, e.Config.Learners, e.Config.Want} {
		s += "/"
		for _, n := range row {
			s += strconv.Itoa(n)
		}
	}
	return s
}

func (g *group) send(l []api.Letter) { g.way = append(g.way, l...) }

// letter gives a letter to whom it is to; an image is taken whole.
func (g *group) letter(x api.Letter) {
	p := g.peers[x.To]
	g.send(p.Letter(x))
	s := p.State()
	if x.Kind != api.LetterPiece || s.Term != x.Term || s.Lead != x.From {
		return
	}
	if x.Base.Index > s.Commit {
		p.Install(x.Base)
	}
	g.send([]api.Letter{{Kind: api.LetterGot, From: x.To, To: x.From, Term: x.Term, Index: x.Base.Index, At: 5, Size: 5}})
}

// again lets a peer go on from what was kept.
func (g *group) again(n int) {
	p := g.peers[n]
	s, base := p.State(), p.log.Base()
	l := log.New(base)
	l.Put(p.log.From(base.Index+1, 1<<30)...)
	g.peers[n] = start(n, s.Term, s.Vote, l)
}

func (g *group) step() {
	n := 1 + g.next(5)
	p := g.peers[n]
	switch k := g.next(100); {
	case k < 30:
		g.send(p.Tick(g.next(10)))
	case k < 88 && len(g.way) > 0:
		i := g.next(min(len(g.way), 8))
		x := g.way[i]
		if g.next(20) > 0 { // else doubled
			g.way = append(g.way[:i], g.way[i+1:]...)
		}
		if g.next(12) > 0 { // else lost
			g.letter(x)
		}
	case k < 92:
		if _, out, err := p.Propose([]byte(strconv.Itoa(g.commands))); err == api.OK {
			g.commands++
			g.send(out)
		}
	case k < 94:
		var want []int
		for m := 1; m <= 5; m++ {
			if g.next(2) == 0 {
				want = append(want, m)
			}
		}
		out, err := p.Change(want...)
		if err == api.OK {
			g.changes++
		}
		g.send(out)
	case k < 96:
		g.again(n)
	case k < 98:
		p.Compact(p.State().Commit - g.next(3))
	}
	if len(g.way) > 60 {
		g.way = g.way[20:]
	}
}

func (g *group) check() {
	for _, p := range g.peers[1:] {
		s := p.State()
		if s.Role == api.RoleLeader {
			if who, is := g.leaders[s.Term]; is && who != s.Id {
				g.t.Fatalf("%d and %d lead in term %d", who, s.Id, s.Term)
			}
			if _, is := g.leaders[s.Term]; !is {
				g.leads(p)
			}
			g.leaders[s.Term] = s.Id
		}
		for i := p.log.Base().Index + 1; i <= s.Commit; i++ {
			e, _ := p.log.At(i)
			if was, is := g.committed[i]; is && was != text(e) {
				g.t.Fatalf("at %d %d committed %q, not %q", i, s.Id, text(e), was)
			}
			g.committed[i] = text(e)
		}
	}
}

// leads checks that a new leader has all that was committed.
func (g *group) leads(p *tested) {
	for i, was := range g.committed {
		if e, is := p.log.At(i); i > p.log.Base().Index && (!is || text(e) != was) {
			g.t.Fatalf("at %d the leader %d has %q, not %q", i, p.State().Id, text(e), was)
		}
	}
}

// match checks that two logs that have an entry of one index and term are the same up to it.
func (g *group) match() {
	for _, p := range g.peers[1:] {
		for _, q := range g.peers[1:] {
			alike := false
			for i := min(p.log.Last(), q.log.Last()); i > max(p.log.Base().Index, q.log.Base().Index); i-- {
				a, _ := p.log.At(i)
				b, _ := q.log.At(i)
				if alike = alike || a.Term == b.Term; alike && text(a) != text(b) {
					g.t.Fatalf("logs of %d and %d differ at %d", p.State().Id, q.State().Id, i)
				}
			}
		}
	}
}

func TestSafe(t *testing.T) { // P12.6
	commands, changes, terms := 0, 0, 0
	for seed := range uint32(60) {
		g := &group{t: t, seed: seed*7919 + 1, leaders: map[int]int{}, committed: map[int]string{}}
		voters := []int{1, 2, 3}
		if seed%3 == 0 {
			voters = []int{2}
		}
		for n := 1; n <= 5; n++ {
			g.peers[n] = start(n, 0, 0, log.New(api.Base{Config: api.Config{Voters: voters}}))
		}
		for i := range 4000 {
			g.step()
			g.check()
			if i%50 == 0 {
				g.match()
			}
		}
		commands, changes, terms = commands+len(g.committed), changes+g.changes, terms+len(g.leaders)
	}
	if commands < 2000 || changes < 100 || terms < 200 {
		t.Errorf("hardly anything happened: %d commands, %d changes, %d leaders", commands, changes, terms)
	}
}

// Whatever is given, nothing panics and all ends.
func TestAnyLetters(t *testing.T) { // R1
	g := &group{t: t, seed: 5}
	for range 300 {
		p := start(1+g.next(5), g.next(4), g.next(6), log.New(api.Base{Index: g.next(3), Term: g.next(3), Config: api.Config{Voters: []int{g.next(7), g.next(7)}, Want: []int{g.next(9) - 1}}}))
		for range 200 {
			x := api.Letter{Kind: api.LetterKind(g.next(9)), From: g.next(7), To: p.State().Id, Term: g.next(5), Index: g.next(8) - 1, LogTerm: g.next(5) - 1, Commit: g.next(9), Ok: g.next(2) == 0, Size: g.next(3), At: g.next(3)}
			for range g.next(3) {
				x.Entries = append(x.Entries, api.Entry{Term: g.next(5), Kind: api.EntryKind(g.next(4)), Config: api.Config{Voters: []int{g.next(8) - 1}, Learners: []int{g.next(99) - 9}, Want: []int{g.next(8)}}})
			}
			p.Letter(x)
			p.Tick(g.next(30) - 5)
			p.Propose(nil)
			p.Change(g.next(7), g.next(7))
			p.Compact(g.next(9) - 1)
			p.Install(api.Base{Index: g.next(40) - 20})
		}
	}
}

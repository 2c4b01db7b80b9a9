package member_test

import (
	"bytes"
	"fmt"
	"reflect"
	"slices"
	"testing"

	"watershed/api"
	"watershed/disk"
	"watershed/image"
	"watershed/letter"
	. "watershed/member"
	"watershed/shares"
)

// group is members of one group, with what is on its way.
type group struct {
	t       *testing.T
	disks   []*disk.Disk
	members []*Member
	way     []api.Letter
	answers []api.Letter
	applied map[int]string
	lost    func(api.Letter) bool
}

func newGroup(t *testing.T, n int, voters ...int) *group {
	g := &group{t: t, disks: make([]*disk.Disk, n+1), members: make([]*Member, n+1), applied: map[int]string{}, lost: func(api.Letter) bool { return false }}
	for id := 1; id <= n; id++ {
		g.disks[id] = disk.New(0)
		if slices.Contains(voters, id) {
			g.members[id] = open(t, g.disks[id], id, voters...)
		} else {
			g.members[id] = open(t, g.disks[id], id)
		}
	}
	return g
}

// out takes what a member told.
func (g *group) out(l []api.Letter, all []Applied) {
	if !letter.Right(l...) {
		g.t.Fatalf("letters that are not right: %+v", l)
	}
	for _, x := range l {
		if x.Kind == api.LetterAnswer {
			g.answers = append(g.answers, x)
		} else if !g.lost(x) {
			g.way = append(g.way, x)
		}
	}
	for _, a := range all {
		s := fmt.Sprint(a.Entry.Term, a.Entry.Kind, a.Entry.Command, a.Answer)
		if was, is := g.applied[a.Index]; is && was != s {
			g.t.Fatalf("at %d %s was applied, not %s", a.Index, s, was)
		}
		g.applied[a.Index] = s
	}
}

func (g *group) round() {
	l := g.way
	g.way = nil
	for _, x := range l {
		if m := g.members[x.To]; m != nil {
			g.out(m.Letter(x))
		}
	}
	for id, m := range g.members {
		if m != nil {
			g.out(m.Tick(3 * id))
		}
	}
}

func (g *group) rounds(n int) {
	for range n {
		g.round()
	}
}

func (g *group) leader() *Member {
	var l *Member
	for _, m := range g.members {
		if m != nil && m.State().Role == api.RoleLeader && (l == nil || m.State().Term > l.State().Term) {
			l = m
		}
	}
	if l == nil {
		g.t.Fatal("nobody leads")
	}
	return l
}

func (g *group) propose(b []byte) {
	l := g.leader()
	g.out(l.Letter(propose(l.State().Id, 5, 1000+len(g.answers), b)))
}

func (g *group) alike(ids ...int) {
	g.t.Helper()
	first := g.members[ids[0]]
	for _, id := range ids[1:] {
		if m := g.members[id]; m.Done() != first.Done() || !bytes.Equal(m.Machine().Bytes(), first.Machine().Bytes()) {
			g.t.Errorf("%d has applied up to %d, %d up to %d, or its machine is other", id, m.Done(), ids[0], first.Done())
		}
	}
}

func TestGroup(t *testing.T) { // P24.3, P24.6
	g := newGroup(t, 3, 1, 2, 3)
	g.rounds(30)
	for i := range 5 {
		g.propose(put(i+1, fmt.Sprintf("k%d", i)))
		g.rounds(5)
	}
	if len(g.answers) != 5 || !g.answers[4].Ok || g.answers[4].Index != 6 || g.answers[4].To != 5 || g.answers[4].Tag != 1004 {
		t.Errorf("%+v", g.answers)
	}
	g.alike(1, 2, 3)
	for id := 1; id <= 3; id++ { // opened again, behind a crash
		was := g.members[id]
		g.disks[id].Crash(0)
		g.members[id] = open(t, g.disks[id], id, 1, 2, 3)
		if s := g.members[id].State(); s.Term != was.State().Term || s.Vote != was.State().Vote || g.members[id].Last() != was.Last() {
			t.Errorf("%+v, %+v", s, was.State())
		}
	}
	g.rounds(40)
	g.propose(put(9, "z"))
	g.rounds(5)
	g.alike(1, 2, 3)
	if g.members[1].Done() < 8 {
		t.Error("goes on")
	}
}

func TestOldProposals(t *testing.T) { // to apply
	g := newGroup(t, 3, 1, 2, 3)
	g.rounds(30)
	old := g.leader()
	id := old.State().Id
	g.lost = func(x api.Letter) bool { return x.From == id || x.To == id }
	g.out(old.Letter(propose(id, 4, 7, put(1, "k"))))
	g.members[id] = nil
	g.way = nil
	g.rounds(40)
	g.propose(put(2, "l"))
	g.rounds(5)
	g.members[id] = old
	g.lost = func(api.Letter) bool { return false }
	g.rounds(40)
	g.alike(1, 2, 3)
	for _, x := range g.answers {
		if x.Tag == 7 {
			t.Errorf("of an entry of another term: %+v", x)
		}
	}
	if len(g.answers) != 1 || g.leader().Done() < 3 {
		t.Errorf("%+v", g.answers)
	}
}

// fill lets the group have a machine of more than a piece.
func (g *group) fill() {
	for i := range 150 {
		g.propose(put(i+1, fmt.Sprintf("a%dlong", i)))
		g.propose(finish(i + 1))
		g.round()
	}
	g.rounds(10)
}

func TestPieces(t *testing.T) { // P24.3
	g := newGroup(t, 3, 1, 2, 3)
	g.rounds(30)
	late := 1
	if g.leader().State().Id == 1 {
		late = 2
	}
	m := g.members[late]
	g.members[late] = nil
	g.fill()
	ok(t, g.leader().Compact())
	g.propose(put(200, "behind"))
	g.rounds(5)
	if len(g.leader().Machine().Bytes()) < 1500 {
		t.Fatal("too small")
	}
	g.members[late] = m
	pieces := 0
	g.lost = func(x api.Letter) bool {
		if x.Kind == api.LetterPiece {
			pieces++
			if x.Size == 0 || len(x.Bytes) == 0 || len(x.Base.Config.Voters) != 3 {
				t.Errorf("%+v", x)
			}
		}
		return pieces == 2
	}
	g.rounds(80)
	g.alike(1, 2, 3)
	if pieces < 3 || m.Base().Index < 100 {
		t.Errorf("%d pieces, base %d", pieces, m.Base().Index)
	}
	x, is, _ := image.Load(g.disks[late], 1)
	if !is || x.Base.Index != m.Base().Index {
		t.Error("the image is kept")
	}
	g.disks[late].Crash(0)
	again := open(t, g.disks[late], late, 1, 2, 3)
	if again.Done() != x.Base.Index || !bytes.Equal(again.Machine().Bytes(), x.Bytes) {
		t.Error("opened again")
	}
	// the image that came is that of which it fills pieces
	g.members[late] = again
	ticks(again, 11)
	ask := api.Letter{Kind: api.LetterVote, Group: 1, To: late, Term: again.State().Term, Ok: true}
	for ask.From = 1; ask.From <= 3; ask.From++ {
		again.Letter(ask)
	}
	if again.State().Role != api.RoleLeader {
		t.Fatal("leads not")
	}
	other := 3
	l, _ := again.Letter(api.Letter{Kind: api.LetterAck, Group: 1, From: other, To: late, Term: again.State().Term, Index: 0})
	if len(l) != 1 || l[0].Kind != api.LetterPiece || l[0].Size != len(x.Bytes) || !bytes.Equal(l[0].Bytes, x.Bytes[:600]) {
		t.Errorf("%+v", l)
	}
}

// piece is a letter of an image for a fresh member.
func pieceOf(x api.Image, at, n int) api.Letter {
	return api.Letter{Kind: api.LetterPiece, Group: 1, From: 1, To: 2, Term: 4, Base: x.Base, Size: len(x.Bytes), At: at, Bytes: x.Bytes[at : at+n]}
}

func got(x api.Letter, at int) api.Letter {
	return api.Letter{Kind: api.LetterGot, Group: 1, From: 2, To: 1, Term: 4, Index: x.Base.Index, Size: x.Size, At: at}
}

func told(t *testing.T, m *Member, x api.Letter, want ...api.Letter) {
	t.Helper()
	if l, _ := m.Letter(x); !same(l, want...) {
		t.Errorf("%+v, not %+v", l, want)
	}
}

func someImage(t *testing.T) api.Image {
	m := alone(t, disk.New(0))
	m.Letter(propose(1, 1, 1, put(1, "k")))
	return api.Image{Base: api.Base{Index: 7, Term: 3, Config: api.Config{Voters: []int{1, 2}}}, Bytes: m.Machine().Bytes()}
}

func TestPieceByPiece(t *testing.T) { // P24.3
	x, d := someImage(t), disk.New(0)
	n := len(x.Bytes)
	m := open(t, d, 2, 1, 2)
	p := pieceOf(x, 0, 10)
	told(t, m, p, got(p, 10))
	if s := m.State(); s.Term != 4 || s.Lead != 1 || s.Commit != 0 {
		t.Errorf("%+v", s)
	}
	told(t, m, pieceOf(x, 15, 5), got(p, 10))
	last := pieceOf(x, 10, n-10)
	told(t, m, last, got(p, n))
	if m.Done() != 7 || m.State().Commit != 7 || m.Last() != 7 || !reflect.DeepEqual(m.Base(), x.Base) || !bytes.Equal(m.Machine().Bytes(), x.Bytes) || d.Waits() > 0 {
		t.Errorf("%+v", m.Base())
	}
	told(t, m, p, got(p, n)) // it has that already
	old := pieceOf(x, 0, 10)
	old.Term = 3
	told(t, m, old, api.Letter{Kind: api.LetterAck, Group: 1, From: 2, To: 1, Term: 4})
}

func TestPiecesThatAreNone(t *testing.T) { // P24.3
	x, d := someImage(t), disk.New(0)
	m := open(t, d, 2, 1, 2)
	bad := x
	bad.Bytes = x.Bytes[:len(x.Bytes)-1]
	p := pieceOf(bad, 0, len(bad.Bytes))
	told(t, m, p, got(p, 0))
	if m.Done() != 0 || m.Halted() || !slices.Equal(d.Names(), []string{"journal.1"}) {
		t.Errorf("%v", d.Names())
	}
	other := x
	other.Bytes = slices.Clone(x.Bytes)
	other.Bytes[0] = 2 // another group's
	p = pieceOf(other, 0, len(other.Bytes))
	told(t, m, p, got(p, 0))
	small := disk.New(100)
	s := open(t, small, 2, 1, 2)
	p = pieceOf(x, 0, len(x.Bytes))
	small.Append("filler", make([]byte, 50))
	told(t, s, p, got(p, 0)) // it could not be saved
	if s.Halted() || s.Done() != 0 {
		t.Error("halted")
	}
	small.Remove("filler")
	halts := false
	for size := 60; size < 150; size++ {
		s, _ := Open(disk.New(size), 2, 1, shares.First(1), 1, 2)
		s.Letter(pieceOf(x, 0, 5))
		if s.Halted() {
			continue
		}
		if l, _ := s.Letter(pieceOf(x, 5, len(x.Bytes)-5)); s.Halted() {
			halts = true
			if len(l) > 0 || s.Done() != 0 || s.State().Commit != 0 {
				t.Error("something was told")
			}
		}
	}
	if !halts {
		t.Error("never halted")
	}
}

func TestImageOverEntries(t *testing.T) { // P24.3: an image ahead of what is committed takes the place of what was proposed
	for more := range 4 {
		g := newGroup(t, 2, 1, 2)
		g.rounds(30)
		l := g.leader()
		id := l.State().Id
		g.members[3-id] = nil
		g.out(l.Letter(propose(id, 5, 7, put(1, "k"))))
		g.out(l.Letter(propose(id, 5, 8, put(2, "l"))))
		x := someImage(t)
		x.Base.Index, x.Base.Term = l.Last()-1+more, 1
		p := pieceOf(x, 0, len(x.Bytes))
		p.To, p.From, p.Term = id, 3-id, l.State().Term+1
		letters, applied := l.Letter(p)
		if len(letters) != 1 || len(applied) > 0 || l.Done() != x.Base.Index || l.Last() < l.Done() || !bytes.Equal(l.Machine().Bytes(), x.Bytes) {
			t.Errorf("%+v, %d", letters, l.Done())
		}
	}
}

func TestChanges(t *testing.T) { // P24.2, P24.6
	g := newGroup(t, 5, 1, 2, 3)
	g.rounds(30)
	g.fill()
	ok(t, g.leader().Compact())
	l, a, err := g.leader().Change(3, 4, 5)
	ok(t, err)
	g.out(l, a)
	g.rounds(200)
	if c := g.leader().Config(); !slices.Equal(c.Voters, []int{3, 4, 5}) || len(c.Old)+len(c.Want)+len(c.Learners) > 0 {
		t.Errorf("%+v", c)
	}
	g.propose(put(199, "end"))
	g.rounds(20)
	g.alike(3, 4, 5)
}

func TestCrashes(t *testing.T) { // P24.6
	seed := uint32(11)
	next := func(n int) int {
		seed = seed*1664525 + 1013904223
		return int(seed>>12) % n
	}
	for range 4 {
		g := newGroup(t, 3, 1, 2, 3)
		g.lost = func(api.Letter) bool { return next(10) == 0 }
		for num := 1; num < 900; num++ {
			g.round()
			id := 1 + next(3)
			switch m := g.members[id]; next(40) {
			case 0:
				g.disks[id].Crash(next(50))
				g.members[id] = open(t, g.disks[id], id, 1, 2, 3)
				if s, w := g.members[id].State(), m.State(); s.Term != w.Term || s.Vote != w.Vote || g.members[id].Last() != m.Last() {
					t.Fatalf("%+v, %+v", s, w)
				}
			case 1:
				m.Compact()
			case 2, 3, 4, 5, 6, 7:
				g.out(m.Letter(propose(id, 5, num, put(num, fmt.Sprintf("k%d", num%9)))))
				g.out(m.Letter(propose(id, 5, num, finish(num))))
			}
		}
		g.lost = func(api.Letter) bool { return false }
		g.rounds(100)
		g.alike(1, 2, 3)
		if g.members[1].Done() < 50 {
			t.Errorf("hardly anything happened: %d", g.members[1].Done())
		}
	}
}

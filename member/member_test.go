package member_test

import (
	"bytes"
	"fmt"
	"reflect"
	"slices"
	"testing"

	"watershed/api"
	"watershed/disk"
	"watershed/frame"
	"watershed/image"
	"watershed/journal"
	"watershed/letter"
	. "watershed/member"
	"watershed/order"
	"watershed/shares"
)

func ok(t *testing.T, err api.Errno) {
	t.Helper()
	if err != api.OK {
		t.Fatalf("error %d", err)
	}
}

func open(t *testing.T, d *disk.Disk, id int, voters ...int) *Member {
	t.Helper()
	m, err := Open(d, id, 1, shares.First(1), voters...)
	ok(t, err)
	return m
}

func put(num int, key string) []byte {
	b, _ := order.Put(order.Order{Kind: order.Prepare, Name: api.Name{Client: 1, Num: num}, Epoch: 1, Acts: []api.Act{{Kind: api.ActAdd, Key: key, Num: num}}})
	return b
}

func finish(num int) []byte {
	b, _ := order.Put(order.Order{Kind: order.Finish, Name: api.Name{Client: 1, Num: num}, Commit: true})
	return b
}

func propose(to, from, tag int, b []byte) api.Letter {
	return api.Letter{Kind: api.LetterPropose, Group: 1, From: from, To: to, Term: 1, Tag: tag, Bytes: b}
}

func ticks(m *Member, n int) {
	for range n {
		m.Tick(0)
	}
}

// alone is a member that leads, of voters 1 alone.
func alone(t *testing.T, d *disk.Disk) *Member {
	t.Helper()
	m := open(t, d, 1, 1)
	ticks(m, 12)
	if m.State().Role != api.RoleLeader {
		t.Fatal("leads not")
	}
	return m
}

func same(l []api.Letter, want ...api.Letter) bool { return slices.EqualFunc(l, want, letter.Same) }

func files(d *disk.Disk) map[string][]byte {
	l := map[string][]byte{}
	for _, name := range d.Names() {
		l[name], _ = d.Read(name)
	}
	return l
}

func TestAlone(t *testing.T) { // P24.2, P24.3, example 1
	d := disk.New(0)
	m := open(t, d, 1, 1)
	if m.State() != (api.Peer{Id: 1, Role: api.RoleFollower}) || m.Last() != 0 || m.Done() != 0 || m.Halted() || !slices.Equal(m.Config().Voters, []int{1}) || m.Machine().Group() != 1 {
		t.Error("opened")
	}
	var all []Applied
	for range 10 {
		l, a := m.Tick(0)
		if len(l) > 0 {
			t.Errorf("%v", l)
		}
		all = append(all, a...)
	}
	if m.State().Role != api.RoleLeader || len(all) != 1 || all[0].Index != 1 || all[0].Entry.Kind != api.EntryNothing || len(all[0].Answer) > 0 || m.Done() != 1 {
		t.Errorf("%+v", all)
	}
	l, all := m.Letter(propose(1, 1, 77, put(1, "k")))
	want, _ := order.PutAnswer(order.Answer{Reads: []api.Read{{Key: "k"}}})
	if !same(l, api.Letter{Kind: api.LetterAnswer, Group: 1, From: 1, To: 1, Tag: 77, Ok: true, Index: 2, Bytes: want}) {
		t.Errorf("%+v", l)
	}
	if len(all) != 1 || all[0].Index != 2 || !bytes.Equal(all[0].Entry.Command, put(1, "k")) || !bytes.Equal(all[0].Answer, want) || len(m.Machine().Tract().Holds(api.Span{})) != 1 {
		t.Errorf("%+v", all)
	}
	l[0].Bytes[0] = 99
	if all[0].Answer[0] == 99 {
		t.Error("memory is shared")
	}
	if d.Waits() != 0 {
		t.Error("what a letter leans on is not safe")
	}
	again := open(t, d, 1, 1)
	if again.Last() != 2 || again.Done() != 0 || again.State() != (api.Peer{Id: 1, Term: 1, Vote: 1, Role: api.RoleFollower}) {
		t.Error("opened again")
	}
	ticks(again, 10)
	if again.Done() != 3 || !bytes.Equal(again.Machine().Bytes(), m.Machine().Bytes()) {
		t.Error("applied again")
	}
}

func TestOpenErrors(t *testing.T) { // P24.1
	first := shares.First(1)
	for _, d := range []*disk.Disk{nil, {}} {
		if m, err := Open(d, 0, 9, first); m != nil || err != api.ErrNil {
			t.Errorf("%d", err)
		}
	}
	for i, c := range []struct {
		id, group int
		first     api.Shares
		voters    []int
	}{{0, 1, first, nil}, {6, 1, first, nil}, {1, -1, first, nil}, {1, 5, first, nil}, {1, 1, api.Shares{}, nil}, {1, 1, first, []int{0}}, {1, 1, first, []int{6}}, {1, 1, first, []int{2, 1}}, {1, 1, first, []int{1, 1}}} {
		d := disk.New(0)
		if m, err := Open(d, c.id, c.group, c.first, c.voters...); m != nil || err != api.ErrArg || len(d.Names()) > 0 {
			t.Errorf("%d: %d", i, err)
		}
	}
	bad := disk.New(0)
	b, _ := frame.Put(frame.Frame{Kind: 9})
	bad.Append("journal.1", b)
	if m, err := Open(bad, 1, 1, first); m != nil || err != api.ErrHalt {
		t.Errorf("%d", err)
	}
	bad = disk.New(0)
	bad.Append("image.1", []byte{1})
	if m, err := Open(bad, 1, 1, first, 1); m != nil || err != api.ErrHalt || !slices.Equal(bad.Names(), []string{"image.1"}) {
		t.Errorf("%d", err)
	}
	if m, err := Open(disk.New(5), 1, 1, first, 1); m != nil || err != api.ErrFull {
		t.Errorf("%d", err)
	}
	if m, err := Open(disk.New(5), 1, 1, first); m == nil || err != api.OK {
		t.Errorf("%d", err)
	}
}

func TestOpenBases(t *testing.T) { // P24.1
	first := shares.First(1)
	state := func() []byte { return alone(t, disk.New(0)).Machine().Bytes() }()
	base := func(index, term int) api.Base {
		return api.Base{Index: index, Term: term, Config: api.Config{Voters: []int{1, 2}}}
	}
	for i, c := range []struct {
		journal, image []api.Base
		bytes          []byte
		index          int
		err            api.Errno
	}{
		{nil, nil, nil, 0, api.OK},
		{nil, []api.Base{base(5, 2)}, state, 5, api.OK},
		{[]api.Base{base(5, 2)}, []api.Base{base(5, 2)}, state, 5, api.OK},
		{[]api.Base{base(4, 2)}, []api.Base{base(5, 2)}, state, 5, api.OK},
		{[]api.Base{base(5, 3)}, []api.Base{base(5, 2)}, state, 0, api.ErrHalt},
		{[]api.Base{base(6, 2)}, []api.Base{base(5, 2)}, state, 0, api.ErrHalt},
		{[]api.Base{base(5, 2)}, nil, nil, 0, api.ErrHalt},
		{nil, []api.Base{base(5, 2)}, state[1:], 0, api.ErrHalt},
		{[]api.Base{base(0, 0)}, nil, nil, 0, api.OK},
	} {
		d := disk.New(0)
		for _, b := range c.journal {
			j, _ := journal.Open(d, 1)
			ok(t, j.Base(b))
		}
		for _, b := range c.image {
			ok(t, image.Save(d, 1, api.Image{Base: b, Bytes: c.bytes}))
		}
		m, err := Open(d, 3, 1, first, 3)
		if err != c.err || (m != nil) != (err == api.OK) || m.Base().Index != c.index || m.Done() != c.index {
			t.Errorf("%d: %d, %v", i, err, m.Base())
		}
		if err != api.OK {
			continue
		}
		voters := []int{1, 2}
		if len(c.journal)+len(c.image) == 0 {
			voters = []int{3}
		}
		if !slices.Equal(m.Config().Voters, voters) || d.Waits() > 0 {
			t.Errorf("%d: %v", i, m.Config())
		}
		if c.image != nil && !bytes.Equal(m.Machine().Bytes(), state) {
			t.Errorf("%d: the image's machine", i)
		}
	}
	d := disk.New(0)
	j, _ := journal.Open(d, 1)
	ok(t, j.Vote(3, 2))
	if m := open(t, d, 1, 1); len(m.Config().Voters) > 0 || m.State().Term != 3 || m.State().Vote != 2 {
		t.Error("a journal that is not in the first state")
	}
}

func TestNotTaken(t *testing.T) { // P24.3
	m := alone(t, disk.New(0))
	wrong := propose(1, 1, 1, put(1, "k"))
	for i, c := range []func(*api.Letter){func(x *api.Letter) { x.Tag = -1 }, func(x *api.Letter) { x.Group = 2 }, func(x *api.Letter) { x.To = 2 }, func(x *api.Letter) { x.Kind = api.LetterAnswer }, func(x *api.Letter) { x.Kind = 0 }} {
		x := wrong
		c(&x)
		if l, a := m.Letter(x); len(l)+len(a) > 0 || m.Last() != 1 {
			t.Errorf("%d: %v", i, l)
		}
	}
	f := open(t, disk.New(0), 2, 1, 2)
	no := api.Letter{Kind: api.LetterAnswer, Group: 1, From: 2, To: 3, Tag: 9}
	if l, a := f.Letter(propose(2, 3, 9, nil)); !same(l, no) || len(a) > 0 {
		t.Errorf("%+v", l)
	}
	f.Letter(api.Letter{Kind: api.LetterAppend, Group: 1, From: 1, To: 2, Term: 4})
	no.Index = 1
	if l, _ := f.Letter(propose(2, 3, 9, nil)); !same(l, no) {
		t.Errorf("%+v", l)
	}
}

func TestNone(t *testing.T) { // P24.5
	for _, m := range []*Member{nil, {}} {
		l, a := m.Tick(0)
		k, b := m.Letter(propose(1, 1, 1, nil))
		n, c, err := m.Change(1)
		if len(l)+len(a)+len(k)+len(b)+len(n)+len(c) > 0 || err != api.ErrNil || m.Compact() != api.ErrNil || m.State() != (api.Peer{}) || !reflect.DeepEqual(m.Base(), api.Base{}) || m.Last() != 0 || !reflect.DeepEqual(m.Config(), api.Config{}) || m.Done() != 0 || m.Halted() || m.Machine() != nil {
			t.Error("a member that is none")
		}
	}
}

func TestHalts(t *testing.T) { // to keep
	d := disk.New(100)
	m := alone(t, d)
	var err bool
	for i := range 20 {
		last, done, machine := m.Last(), m.Done(), m.Machine().Bytes()
		l, a := m.Letter(propose(1, 1, i, put(i+1, fmt.Sprintf("k%d", i))))
		if !m.Halted() {
			if len(l) != 1 || len(a) != 1 {
				t.Fatalf("%v, %v", l, a)
			}
			continue
		}
		err = true
		if len(l)+len(a) > 0 || m.Done() != done || m.Last() != last+1 || !bytes.Equal(m.Machine().Bytes(), machine) {
			t.Error("something was told, or applied")
		}
		break
	}
	if !err {
		t.Fatal("never halted")
	}
	l, a := m.Tick(0)
	k, b := m.Letter(propose(1, 1, 1, nil))
	n, c, change := m.Change(2)
	if len(l)+len(a)+len(k)+len(b)+len(n)+len(c) > 0 || change != api.ErrHalt || m.Compact() != api.ErrHalt {
		t.Error("a member that has halted")
	}
	was := files(d)
	d.Crash(0)
	if !reflect.DeepEqual(was, files(d)) {
		t.Error("what was told leans on what waits")
	}
	if again := open(t, d, 1, 1); again.Halted() || again.Last() != m.Last()-1 {
		t.Error("opened anew it goes on from what was kept")
	}
}

func TestVoteHalts(t *testing.T) { // to keep
	d := disk.New(30)
	m := open(t, d, 1, 1, 2, 3)
	for range 100 {
		if l, _ := m.Tick(0); m.Halted() {
			if len(l) > 0 {
				t.Error("something was told")
			}
			return
		}
	}
	t.Error("never halted")
}

func TestChangeHalts(t *testing.T) { // P24.2
	for size := 30; size < 200; size++ {
		m, err := Open(disk.New(size), 1, 1, shares.First(1), 1)
		if err != api.OK {
			continue
		}
		ticks(m, 12)
		if m.Halted() {
			continue
		}
		if _, _, err := m.Change(1); err != api.ErrThere {
			t.Errorf("%d", err)
		}
		l, a, err := m.Change(1, 2)
		if m.Halted() != (err == api.ErrHalt) || m.Halted() && len(l)+len(a) > 0 || !m.Halted() && (err != api.OK || len(l) != 1 || l[0].Group != 1 || len(a) != 1) {
			t.Errorf("size %d: %v, %v, %d", size, l, a, err)
		}
		if err == api.OK {
			return
		}
	}
	t.Error("never changed")
}

func TestCompact(t *testing.T) { // P24.4
	d := disk.New(0)
	m := alone(t, d)
	m.Change(1, 2) // learner 2: committed by 1 alone
	m.Letter(propose(1, 1, 1, put(1, "k")))
	m.Letter(propose(1, 1, 1, finish(1)))
	state := m.Machine().Bytes()
	ok(t, m.Compact())
	x, is, _ := image.Load(d, 1)
	if b := m.Base(); !is || b.Index != 4 || b.Term != 1 || !slices.Equal(b.Config.Learners, []int{2}) || !bytes.Equal(x.Bytes, state) || x.Base.Index != 4 || !slices.Equal(x.Base.Config.Want, []int{1, 2}) {
		t.Errorf("%+v, %+v", m.Base(), x)
	}
	if d.Waits() > 0 || m.Last() != 4 || m.Compact() != api.ErrNone {
		t.Error("compacted")
	}
	again := open(t, d, 1, 1)
	if again.Done() != 4 || !bytes.Equal(again.Machine().Bytes(), state) || !reflect.DeepEqual(again.Base(), m.Base()) {
		t.Error("opened again")
	}
	if New := open(t, disk.New(0), 1, 1); New.Compact() != api.ErrNone {
		t.Error("nothing was applied yet")
	}
	m.Letter(propose(1, 1, 1, put(2, "l")))
	m.Letter(propose(1, 1, 1, []byte{9}))
	ok(t, m.Compact())
	if again := open(t, d, 1, 1); again.Done() != 6 || again.Last() != 6 {
		t.Error("twice")
	}
}

func TestCompactConfig(t *testing.T) { // P24.4: the configuration in force there, not behind it
	m := alone(t, disk.New(0))
	m.Letter(propose(1, 1, 1, put(1, "k")))
	m.Change(1, 2)
	m.Letter(api.Letter{Kind: api.LetterAck, Group: 1, From: 2, To: 1, Term: 1, Ok: true, Index: 3}) // joint, at 4, not committed
	if m.Done() != 3 || m.Last() != 4 {
		t.Fatalf("%d, %d", m.Done(), m.Last())
	}
	ok(t, m.Compact())
	if b := m.Base(); b.Index != 3 || !slices.Equal(b.Config.Voters, []int{1}) || !slices.Equal(b.Config.Want, []int{1, 2}) || len(b.Config.Old) > 0 {
		t.Errorf("%+v", b)
	}
}

func TestCompactFull(t *testing.T) { // P24.4
	seen := map[api.Errno]bool{}
	for size := 100; size < 260; size++ {
		d := disk.New(size)
		m := alone(t, d)
		m.Letter(propose(1, 1, 1, put(1, "k")))
		if m.Halted() {
			continue
		}
		base, was := m.Base(), files(d)
		err := m.Compact()
		seen[err] = true
		if err != api.OK && (err != api.ErrFull || m.Halted() || !reflect.DeepEqual(m.Base(), base) || !bytes.Equal(files(d)["journal.1"], was["journal.1"])) {
			t.Errorf("size %d: %d", size, err)
		}
		d.Crash(0)
		again, opened := Open(d, 1, 1, shares.First(1), 1)
		if err == api.OK && (opened != api.OK || again.Done() != 2) || opened != api.OK && opened != api.ErrFull {
			t.Errorf("size %d: %d", size, opened)
		}
	}
	if !seen[api.OK] || !seen[api.ErrFull] {
		t.Errorf("%v", seen)
	}
}

package journal_test

import (
	"bytes"
	"reflect"
	"slices"
	"testing"

	"watershed/api"
	"watershed/disk"
	"watershed/frame"
	. "watershed/journal"
	"watershed/wire"
)

func ok(t *testing.T, err api.Errno) {
	t.Helper()
	if err != api.OK {
		t.Fatalf("error %d", err)
	}
}

func open(t *testing.T, d *disk.Disk) *Journal {
	t.Helper()
	j, err := Open(d, 1)
	ok(t, err)
	return j
}

func nothing(term int) api.Entry { return api.Entry{Term: term, Kind: api.EntryNothing} }

func command(term int, s string) api.Entry {
	return api.Entry{Term: term, Kind: api.EntryCommand, Command: []byte(s)}
}

func config(term int, voters ...int) api.Entry {
	return api.Entry{Term: term, Kind: api.EntryConfig, Config: api.Config{Voters: voters}}
}

func baseOf(index, term int, voters ...int) api.Base {
	return api.Base{Index: index, Term: term, Config: api.Config{Voters: voters}}
}

func encode(s State) []byte {
	w := wire.NewWriter().Numbers(s.Term, s.Vote, len(s.Entries))
	b, _ := WriteBase(Write(w, s.Entries...), s.Base).Done()
	return b
}

func same(a, b State) bool { return bytes.Equal(encode(a), encode(b)) }

func is(t *testing.T, j *Journal, want State) {
	t.Helper()
	if got := j.State(); !same(got, want) {
		t.Errorf("%+v, not %+v", got, want)
	}
}

func TestConfigAndEntry(t *testing.T) { // P8.1
	for _, c := range []api.Config{{}, {Voters: []int{1, 5}, Old: []int{2}, Learners: []int{3}, Want: []int{1, 2, 3, 4, 5}}} {
		if !Config(c) {
			t.Errorf("%v is right", c)
		}
	}
	for _, row := range [][]int{{0}, {6}, {-1}, {2, 1}, {3, 3}} {
		if Config(api.Config{Voters: row}) || Config(api.Config{Old: row}) || Config(api.Config{Learners: row}) || Config(api.Config{Want: row}) {
			t.Errorf("%v is not right", row)
		}
	}
	long := make([]byte, api.MaxCommand+1)
	for _, e := range []api.Entry{nothing(0), nothing(api.MaxTerm), command(1, ""), command(1, string(long[1:])), config(2), config(2, 1, 3)} {
		if !Entry(e) {
			t.Errorf("term %d, kind %d is right", e.Term, e.Kind)
		}
	}
	joined := api.Config{Voters: []int{1}}
	for _, row := range []api.Config{{Voters: []int{1}}, {Old: []int{1}}, {Learners: []int{1}}, {Want: []int{1}}} {
		if Entry(api.Entry{Kind: api.EntryNothing, Config: row}) || Entry(api.Entry{Kind: api.EntryCommand, Config: row}) || !Entry(api.Entry{Kind: api.EntryConfig, Config: row}) {
			t.Errorf("%v", row)
		}
	}
	for i, e := range []api.Entry{{}, {Kind: 4}, nothing(-1), nothing(api.MaxTerm + 1), command(1, string(long)), config(1, 6),
		{Kind: api.EntryNothing, Command: []byte{1}}, {Kind: api.EntryNothing, Config: joined}, {Kind: api.EntryCommand, Config: joined}, {Kind: api.EntryConfig, Config: joined, Command: []byte{1}}} {
		if Entry(e) {
			t.Errorf("%d is not right", i)
		}
	}
}

func TestAsBytes(t *testing.T) { // P8.1
	w := wire.NewWriter().Numbers(9)
	if Write(w, command(3, "ab"), config(4, 1, 2)) != w || WriteBase(w, baseOf(300, 2, 5)) != w {
		t.Error("another writer")
	}
	b, err := w.Done()
	if err != api.OK || !bytes.Equal(b, []byte{9, 3, 2, 2, 97, 98, 0, 0, 0, 0, 4, 3, 0, 2, 1, 2, 0, 0, 0, 172, 2, 2, 1, 5, 0, 0, 0}) {
		t.Errorf("%v", b)
	}
	r := wire.NewReader(b[1:])
	for _, want := range []api.Entry{command(3, "ab"), config(4, 1, 2)} {
		e, ok := Read(r)
		if !ok || !bytes.Equal(e.Command, want.Command) || e.Term != want.Term || e.Kind != want.Kind || !slices.Equal(e.Config.Voters, want.Config.Voters) {
			t.Errorf("%v", e)
		}
	}
	if x, ok := ReadBase(r); !ok || x.Index != 300 || x.Term != 2 || !slices.Equal(x.Config.Voters, []int{5}) || r.End() != api.OK {
		t.Errorf("%v", x)
	}
	full := api.Config{Voters: []int{1}, Old: []int{2}, Learners: []int{3}, Want: []int{4}}
	b, _ = WriteBase(wire.NewWriter(), api.Base{Config: full}).Done()
	if x, ok := ReadBase(wire.NewReader(b)); !ok || !bytes.Equal(b, []byte{0, 0, 1, 1, 1, 2, 1, 3, 1, 4}) || !reflect.DeepEqual(x.Config, full) {
		t.Errorf("%v, %v", b, x)
	}
	if Write(nil, nothing(1)) != nil || WriteBase(nil, baseOf(1, 1)) != nil {
		t.Error("of no writer")
	}
}

func TestReadWrong(t *testing.T) { // P8.1
	for _, b := range [][]byte{nil, {1}, {1, 0, 0, 0, 0, 0, 0}, {1, 4, 0, 0, 0, 0, 0}, {1, 1, 1, 5, 0, 0, 0, 0}, {1, 1, 0, 1, 1, 0, 0, 0}, {1, 1, 0, 0, 0, 0}, {1, 3, 0, 1, 6, 0, 0, 0},
		{1, 3, 0, 2, 2, 1, 0, 0, 0}, {1, 3, 0, 6, 1, 2, 3, 4, 5, 5, 0, 0, 0}, {128, 0, 1, 0, 0, 0, 0, 0}, {129, 128, 128, 128, 8, 1, 0, 0, 0, 0, 0}} {
		if e, ok := Read(wire.NewReader(append(b, []byte{}...))); ok || e.Kind != 0 || e.Term != 0 || len(e.Command) > 0 {
			t.Errorf("%v: %v", b, e)
		}
	}
	for _, b := range [][]byte{nil, {1, 2}, {1, 2, 0, 0, 0}, {1, 2, 1, 0, 0, 0, 0}, {1, 2, 0, 0, 0, 2, 3, 3}, {129, 128, 128, 128, 8, 1, 0, 0, 0, 0}} {
		if x, ok := ReadBase(wire.NewReader(b)); ok || x.Index != 0 || x.Term != 0 {
			t.Errorf("%v: %v", b, x)
		}
	}
	if _, ok := Read(nil); ok {
		t.Error("of no reader")
	}
	if _, ok := ReadBase(nil); ok {
		t.Error("of no reader")
	}
}

func TestSteps(t *testing.T) { // P8.3
	d := disk.New(0)
	j := open(t, d)
	is(t, j, State{})
	ok(t, j.Sync())
	if len(d.Names()) != 0 {
		t.Error("nothing was promised yet")
	}
	ok(t, j.Vote(3, 2))
	ok(t, j.Append(1, nothing(3), command(3, "x")))
	ok(t, j.Append(2, config(4, 1, 2)))
	is(t, j, State{Term: 3, Vote: 2, Entries: []api.Entry{nothing(3), config(4, 1, 2)}})
	ok(t, j.Append(3, command(4, "y"), command(4, "z")))
	ok(t, j.Base(baseOf(2, 4, 1, 2)))
	want := State{Term: 3, Vote: 2, Base: baseOf(2, 4, 1, 2), Entries: []api.Entry{command(4, "y"), command(4, "z")}}
	is(t, j, want)
	is(t, open(t, d), want)
	if !slices.Equal(d.Names(), []string{"journal.1"}) || d.Waits() == 0 {
		t.Error("the file")
	}
	ok(t, j.Sync())
	if d.Waits() != 0 {
		t.Error("what was promised waits")
	}
	ok(t, j.Append(3, command(5, "w")))
	ok(t, j.Vote(0, 0))
	want.Entries, want.Term, want.Vote = []api.Entry{command(5, "w")}, 0, 0
	is(t, open(t, d), want)
}

func TestBases(t *testing.T) { // P8.3
	for i, c := range []struct {
		b    api.Base
		left int
	}{
		{baseOf(4, 2), 3}, {baseOf(4, 1), 0}, {baseOf(5, 3), 2}, {baseOf(5, 2), 0}, {baseOf(7, 4), 0}, {baseOf(7, 9), 0}, {baseOf(8, 4), 0}, {baseOf(6, 3), 1},
	} {
		d := disk.New(0)
		j := open(t, d)
		ok(t, j.Base(baseOf(4, 2, 1)))
		ok(t, j.Append(5, nothing(3), nothing(3), nothing(4)))
		ok(t, j.Base(c.b))
		for _, s := range []State{j.State(), open(t, d).State()} {
			if len(s.Entries) != c.left || s.Base.Index != c.b.Index || s.Base.Term != c.b.Term || len(s.Base.Config.Voters) != 0 {
				t.Errorf("%d: %+v", i, s)
			}
		}
	}
}

func TestFile(t *testing.T) { // the file of a group
	d := disk.New(0)
	j, err := Open(d, 4)
	ok(t, err)
	ok(t, j.Vote(300, 2))
	ok(t, j.Append(1, command(3, "x"), config(4, 5)))
	ok(t, j.Base(baseOf(1, 3, 1, 2)))
	want, _ := frame.Put(frame.Frame{Kind: 1, Data: []byte{172, 2, 2}}, frame.Frame{Kind: 2, Data: []byte{1, 2, 3, 2, 1, 'x', 0, 0, 0, 0, 4, 3, 0, 1, 5, 0, 0, 0}}, frame.Frame{Kind: 3, Data: []byte{1, 3, 2, 1, 2, 0, 0, 0}})
	if b, _ := d.Read("journal.4"); !bytes.Equal(b, want) {
		t.Errorf("%v, not %v", b, want)
	}
}

func TestEdges(t *testing.T) { // P8.3
	j := open(t, disk.New(0))
	for _, c := range [][2]int{{0, 0}, {0, 5}, {api.MaxTerm, 0}, {api.MaxTerm, 5}, {1, 1}} {
		ok(t, j.Vote(c[0], c[1]))
	}
	ok(t, j.Append(1, nothing(0), nothing(api.MaxTerm)))
	ok(t, j.Base(baseOf(0, api.MaxTerm)))
	if n := len(j.State().Entries); n != 0 {
		t.Errorf("of the same index, another term: %d entries", n)
	}
	ok(t, j.Append(1, nothing(2)))
	ok(t, j.Base(baseOf(0, api.MaxTerm, 1)))
	if n := len(j.State().Entries); n != 1 {
		t.Errorf("of the same index and term: %d entries", n)
	}
	ok(t, j.Base(baseOf(api.MaxIndex, 0)))
	ok(t, j.Base(baseOf(api.MaxIndex, 0, 1)))
	ok(t, j.Append(api.MaxIndex+1, nothing(1)))
	for _, b := range []api.Base{baseOf(-1, 0), baseOf(0, -1), baseOf(api.MaxIndex+1, 0), baseOf(api.MaxIndex, api.MaxTerm+1)} {
		if err := open(t, disk.New(0)).Base(b); err != api.ErrArg {
			t.Errorf("%v: %d", b, err)
		}
	}
}

func TestStepErrors(t *testing.T) { // P8.3
	j := open(t, disk.New(0))
	ok(t, j.Base(baseOf(4, 2, 1)))
	ok(t, j.Append(5, nothing(3)))
	was := j.State()
	half := make([]byte, api.MaxCommand)
	for i, err := range []api.Errno{j.Vote(-1, 0), j.Vote(api.MaxTerm+1, 0), j.Vote(1, -1), j.Vote(1, 6), j.Append(4, nothing(3)), j.Append(7, nothing(3)), j.Append(-1, nothing(3)),
		j.Append(5), j.Append(5, nothing(3), nothing(-1)), j.Append(5, command(1, string(half)+"x")), j.Base(baseOf(3, 2)), j.Base(baseOf(5, -1)), j.Base(baseOf(5, 1, 6)), j.Base(baseOf(api.MaxIndex+1, 1)), j.Base(baseOf(5, api.MaxTerm+1))} {
		if err != api.ErrArg {
			t.Errorf("%d: %d", i, err)
		}
	}
	if err := j.Append(6, command(1, string(half)), command(1, string(half))); err != api.ErrLong {
		t.Errorf("%d", err)
	}
	is(t, j, was)
	ok(t, j.Append(6, command(1, string(half))))
}

func TestFull(t *testing.T) { // P8.3
	d := disk.New(30)
	j := open(t, d)
	ok(t, j.Vote(1, 1))
	b, _ := d.Read("journal.1")
	if j.Append(1, command(1, "a long command of many bytes")) != api.ErrFull || j.Append(2, nothing(1)) != api.ErrArg {
		t.Error("a full disk")
	}
	if j.Base(baseOf(1, 1, 1, 2, 3, 4, 5)) != api.ErrFull {
		t.Error("a full disk")
	}
	if c, _ := d.Read("journal.1"); !bytes.Equal(b, c) {
		t.Error("something was put")
	}
	is(t, j, State{Term: 1, Vote: 1})
	ok(t, j.Vote(2, 2))
	if j.Vote(3, 3) != api.ErrFull {
		t.Error("a full disk")
	}
	is(t, j, State{Term: 2, Vote: 2})
}

func TestOpenErrors(t *testing.T) { // P8.2
	for _, d := range []*disk.Disk{nil, {}} {
		if j, err := Open(d, 9); j != nil || err != api.ErrNil {
			t.Errorf("%d", err)
		}
	}
	for _, g := range []int{-1, 5} {
		if j, err := Open(disk.New(0), g); j != nil || err != api.ErrArg {
			t.Errorf("%d", err)
		}
	}
	entry := []byte{1, 1, 0, 0, 0, 0, 0}
	taken := func(from, many byte, l ...[]byte) frame.Frame {
		return frame.Frame{Kind: 2, Data: append([]byte{from, many}, slices.Concat(l...)...)}
	}
	for i, f := range []frame.Frame{{Kind: 0}, {Kind: 4, Data: []byte{1, 1}}, {Kind: 1}, {Kind: 1, Data: []byte{1}}, {Kind: 1, Data: []byte{1, 6}}, {Kind: 1, Data: []byte{1, 1, 0}},
		taken(1, 0), taken(0, 1, entry), taken(2, 1, entry), taken(1, 2, entry), taken(1, 1, entry, entry), {Kind: 2}, {Kind: 2, Data: []byte{1, 255, 255, 15}},
		{Kind: 3}, {Kind: 3, Data: []byte{0, 0, 0, 0, 0, 0, 0}}, {Kind: 3, Data: []byte{0, 0, 0, 0, 0}}, {Kind: 2, Data: append([]byte{1, 2}, entry...)}, {Kind: 3, Data: []byte{0, 0, 1, 6, 0, 0, 0}}} {
		d := disk.New(0)
		good, _ := frame.Put(frame.Frame{Kind: 1, Data: []byte{1, 1}}, f, frame.Frame{Kind: 1, Data: []byte{2, 2}})
		ok(t, d.Append("journal.0", good, []byte{1, 2, 3}))
		if j, err := Open(d, 0); j != nil || err != api.ErrHalt {
			t.Errorf("%d: %d", i, err)
		}
		if b, _ := d.Read("journal.0"); !bytes.Equal(b, good) {
			t.Errorf("%d: what is torn stays", i)
		}
	}
}

func TestTorn(t *testing.T) { // P8.2
	d := disk.New(0)
	j := open(t, d)
	ok(t, j.Vote(1, 1))
	good, _ := d.Read("journal.1")
	ok(t, d.Append("journal.1", good[:len(good)-1]))
	again := open(t, d)
	is(t, again, State{Term: 1, Vote: 1})
	ok(t, again.Append(1, nothing(1)))
	is(t, open(t, d), State{Term: 1, Vote: 1, Entries: []api.Entry{nothing(1)}})
	other, err := Open(d, 2)
	ok(t, err)
	is(t, other, State{})
}

func TestNone(t *testing.T) { // P8.4
	for _, j := range []*Journal{nil, {}} {
		if !same(j.State(), State{}) || j.Vote(-1, 0) != api.ErrNil || j.Append(0) != api.ErrNil || j.Base(baseOf(-1, 0)) != api.ErrNil || j.Sync() != api.ErrNil {
			t.Error("a journal that is none")
		}
	}
}

func TestMemory(t *testing.T) { // R3
	j := open(t, disk.New(0))
	full := api.Config{Voters: []int{1}, Old: []int{2}, Learners: []int{3}, Want: []int{4}}
	k := open(t, disk.New(0))
	given := api.Base{Config: api.Config{Voters: []int{1}, Old: []int{2}, Learners: []int{3}, Want: []int{4}}}
	ok(t, k.Base(given))
	ok(t, k.Append(1, api.Entry{Kind: api.EntryConfig, Config: given.Config}))
	for range 2 {
		for _, c := range []api.Config{given.Config, k.State().Base.Config, k.State().Entries[0].Config} {
			clear(c.Voters)
			clear(c.Old)
			clear(c.Learners)
			clear(c.Want)
		}
		if s := k.State(); !reflect.DeepEqual(s.Base.Config, full) || !reflect.DeepEqual(s.Entries[0].Config, full) {
			t.Errorf("memory is shared: %+v", s)
		}
	}
	l, b := []api.Entry{command(1, "abc"), config(1, 1, 2)}, baseOf(0, 0, 1)
	ok(t, j.Append(1, l...))
	ok(t, j.Base(b))
	l[0].Command[0], l[1].Config.Voters[0], b.Config.Voters[0] = 'x', 5, 5
	s := j.State()
	s.Entries[0].Command[0], s.Entries[1].Config.Voters[0], s.Base.Config.Voters[0] = 'y', 4, 4
	is(t, j, State{Base: baseOf(0, 0, 1), Entries: []api.Entry{command(1, "abc"), config(1, 1, 2)}})
}

func TestRecovery(t *testing.T) { // P8.5
	d, seed := disk.New(0), uint32(7)
	next := func(n int) int {
		seed = seed*1664525 + 1013904223
		return int(seed>>16) % n
	}
	j := open(t, d)
	states := []State{j.State()} // all since the last Sync
	for range 4000 {
		s := j.State()
		last := s.Base.Index + len(s.Entries)
		switch next(7) {
		case 0:
			ok(t, j.Vote(s.Term+1, next(6)))
		case 1, 2, 3:
			ok(t, j.Append(s.Base.Index+1+next(last-s.Base.Index+1), command(next(3), "c"), nothing(next(3))))
		case 4:
			ok(t, j.Base(baseOf(s.Base.Index+next(5), next(3), 1, 2)))
		case 5:
			ok(t, j.Sync())
			states = nil
		default:
			d.Crash(next(80))
			j = open(t, d)
			if !slices.ContainsFunc(states, func(x State) bool { return same(x, j.State()) }) {
				t.Fatal("a state that was not")
			}
			states = nil
			if again := open(t, d); !same(again.State(), j.State()) {
				t.Fatal("opened again it is other")
			}
		}
		states = append(states, j.State())
	}
}

package letter_test

import (
	"bytes"
	"reflect"
	"testing"

	"watershed/api"
	. "watershed/letter"
)

func full() api.Letter {
	c := api.Config{Voters: []int{1, 2}, Old: []int{2}, Learners: []int{3}, Want: []int{4, 5}}
	return api.Letter{
		Kind: api.LetterPiece, Group: 4, From: 1, To: 5, Term: 300, Index: 7, LogTerm: 6, Commit: 5, Ok: true,
		Entries: []api.Entry{{Term: 3, Kind: api.EntryCommand, Command: []byte("ab")}, {Term: 4, Kind: api.EntryConfig, Config: c}, {Term: 4, Kind: api.EntryNothing}},
		Base:    api.Base{Index: 9, Term: 2, Config: c}, Size: 11, At: 12, Tag: 1 << 40, Bytes: []byte("xyz"),
	}
}

func vote() api.Letter {
	return api.Letter{Kind: api.LetterVote, Group: 1, From: 2, To: 3, Term: 4, Ok: true}
}

// ways is one change of each part of a letter.
func ways() []func(*api.Letter) {
	return []func(*api.Letter){
		func(x *api.Letter) { x.Kind = api.LetterAck }, func(x *api.Letter) { x.Group = 1 }, func(x *api.Letter) { x.From = 2 }, func(x *api.Letter) { x.To = 2 },
		func(x *api.Letter) { x.Term = 1 }, func(x *api.Letter) { x.Index = 1 }, func(x *api.Letter) { x.LogTerm = 1 }, func(x *api.Letter) { x.Commit = 1 }, func(x *api.Letter) { x.Ok = false },
		func(x *api.Letter) { x.Entries = x.Entries[:2] }, func(x *api.Letter) { x.Entries[0].Term = 1 }, func(x *api.Letter) { x.Entries[2].Kind = api.EntryCommand }, func(x *api.Letter) { x.Entries[0].Command[1] = 'c' },
		func(x *api.Letter) { x.Entries[1].Config.Voters[0] = 2 }, func(x *api.Letter) { x.Entries[1].Config.Old = nil }, func(x *api.Letter) { x.Entries[1].Config.Learners = nil }, func(x *api.Letter) { x.Entries[1].Config.Want = nil },
		func(x *api.Letter) { x.Base.Index = 1 }, func(x *api.Letter) { x.Base.Term = 1 }, func(x *api.Letter) { x.Base.Config.Want[0] = 3 }, func(x *api.Letter) { x.Base.Config.Voters[0] = 2 }, func(x *api.Letter) { x.Base.Config.Old[0] = 1 }, func(x *api.Letter) { x.Base.Config.Learners[0] = 1 },
		func(x *api.Letter) { x.Size = 1 }, func(x *api.Letter) { x.At = 1 }, func(x *api.Letter) { x.Tag = 1 }, func(x *api.Letter) { x.Bytes[0] = 'a' }, func(x *api.Letter) { x.Bytes = nil },
	}
}

func TestRight(t *testing.T) { // P11.1
	if !Right() || !Right(full(), vote()) {
		t.Error("these are right")
	}
	for _, c := range []func(*api.Letter){
		func(x *api.Letter) { x.Kind = api.LetterAsk }, func(x *api.Letter) { x.Kind = api.LetterAnswer }, func(x *api.Letter) { x.Group = 0 }, func(x *api.Letter) { x.From = 5 }, func(x *api.Letter) { x.Tag = 1<<62 - 1 },
		func(x *api.Letter) {
			x.Term, x.Index, x.LogTerm, x.Commit, x.Size, x.At = 1<<30, 1<<30, 1<<30, 1<<30, 1<<30, 1<<30
		},
		func(x *api.Letter) { x.Entries = append(make([]api.Entry, 0), x.Entries[2]) }, func(x *api.Letter) { x.Bytes = make([]byte, api.MaxCommand) },
		func(x *api.Letter) { x.Base = api.Base{Index: 1 << 30, Term: 1 << 30} },
	} {
		x := full()
		if c(&x); !Right(x) {
			t.Errorf("%+v is right", x)
		}
	}
	many := make([]api.Entry, 31)
	for i := range many {
		many[i].Kind = api.EntryNothing
	}
	for i, c := range []func(*api.Letter){
		func(x *api.Letter) { x.Kind = 0 }, func(x *api.Letter) { x.Kind = 9 }, func(x *api.Letter) { x.Group = -1 }, func(x *api.Letter) { x.Group = 5 },
		func(x *api.Letter) { x.From = 0 }, func(x *api.Letter) { x.From = 6 }, func(x *api.Letter) { x.To = 0 }, func(x *api.Letter) { x.To = 6 },
		func(x *api.Letter) { x.Term = -1 }, func(x *api.Letter) { x.Index = -1 }, func(x *api.Letter) { x.LogTerm = -1 }, func(x *api.Letter) { x.Commit = -1 }, func(x *api.Letter) { x.Size = -1 }, func(x *api.Letter) { x.At = -1 }, func(x *api.Letter) { x.Tag = -1 },
		func(x *api.Letter) { x.Term = 1<<30 + 1 }, func(x *api.Letter) { x.Index = 1<<30 + 1 }, func(x *api.Letter) { x.LogTerm = 1<<30 + 1 }, func(x *api.Letter) { x.Commit = 1<<30 + 1 }, func(x *api.Letter) { x.Size = 1<<30 + 1 }, func(x *api.Letter) { x.At = 1<<30 + 1 }, func(x *api.Letter) { x.Tag = 1 << 62 },
		func(x *api.Letter) { x.Entries = many }, func(x *api.Letter) { x.Entries[1].Kind = api.EntryNothing }, func(x *api.Letter) { x.Bytes = make([]byte, api.MaxCommand+1) },
		func(x *api.Letter) { x.Base.Index = -1 }, func(x *api.Letter) { x.Base.Index = 1<<30 + 1 }, func(x *api.Letter) { x.Base.Term = -1 }, func(x *api.Letter) { x.Base.Term = 1<<30 + 1 }, func(x *api.Letter) { x.Base.Config.Want = []int{2, 1} },
	} {
		x := full()
		c(&x)
		if Right(x) || Right(vote(), x) {
			t.Errorf("%d is not right", i)
		}
		if b, err := Put(vote(), x); err != api.ErrArg || len(b) > 0 {
			t.Errorf("%d: %d", i, err)
		}
	}
	x := full()
	if x.Entries = many[:30]; !Right(x) {
		t.Error("30 entries are right")
	}
}

func TestPut(t *testing.T) { // P11.2
	b, err := Put(vote())
	if err != api.OK || !bytes.Equal(b, []byte{1, 2, 1, 2, 3, 4, 0, 0, 0, 1, 0, 0, 0, 0, 0, 0, 0, 0, 0, 0, 0}) {
		t.Errorf("%v, %d", b, err)
	}
	b, err = Put(full())
	config := []byte{2, 1, 2, 1, 2, 1, 3, 2, 4, 5}
	want := append([]byte{1, 5, 4, 1, 5, 172, 2, 7, 6, 5, 1, 3, 3, 2, 2, 97, 98, 0, 0, 0, 0, 4, 3, 0}, config...)
	want = append(append(want, 4, 1, 0, 0, 0, 0, 0, 9, 2), config...)
	want = append(want, 11, 12, 128, 128, 128, 128, 128, 32, 3, 120, 121, 122)
	if err != api.OK || !bytes.Equal(b, want) {
		t.Errorf("%v, not %v", b, want)
	}
	if b, err := Put(); err != api.OK || !bytes.Equal(b, []byte{0}) {
		t.Errorf("%v, %d", b, err)
	}
}

func TestGet(t *testing.T) { // P11.2, P11.3
	for _, l := range [][]api.Letter{nil, {vote()}, {full(), vote(), full()}} {
		b, _ := Put(l...)
		got, err := Get(b)
		if err != api.OK || len(got) != len(l) {
			t.Fatalf("%d, %v", err, got)
		}
		for i := range l {
			if !Same(got[i], l[i]) {
				t.Errorf("%+v, not %+v", got[i], l[i])
			}
		}
		for cut := range len(b) {
			if got, err := Get(b[:cut]); err != api.ErrShape || len(got) > 0 {
				t.Errorf("cut at %d: %d", cut, err)
			}
		}
		if got, err := Get(append(b, 0)); err != api.ErrShape || len(got) > 0 {
			t.Errorf("with a byte behind: %d", err)
		}
	}
	if got, err := Get(nil); err != api.ErrShape || len(got) > 0 {
		t.Error("of no bytes")
	}
}

func TestGetTurned(t *testing.T) { // P11.2, P11.3
	b, _ := Put(full(), vote())
	for i := range b {
		for x := range 256 {
			c := bytes.Clone(b)
			c[i] = byte(x)
			got, err := Get(c)
			if err == api.OK {
				if again, err := Put(got...); err != api.OK || !bytes.Equal(again, c) {
					t.Fatalf("byte %d as %d: got, but put otherwise", i, x)
				}
			} else if err != api.ErrShape || len(got) > 0 {
				t.Fatalf("byte %d as %d: %d", i, x, err)
			}
		}
	}
}

func TestSameAndCopy(t *testing.T) { // P11.1
	a := full()
	b := Copy(a)
	if !Same(a, b) || !reflect.DeepEqual(a, b) || !Same(vote(), Copy(vote())) || Same(a, vote()) {
		t.Error("a copy is the same")
	}
	for i, c := range ways() {
		x := Copy(a)
		c(&x)
		if Same(a, x) || Same(x, a) {
			t.Errorf("%d: other, but the same", i)
		}
		if !reflect.DeepEqual(a, full()) {
			t.Fatalf("%d: memory is shared", i)
		}
	}
	x, y := vote(), vote()
	x.Entries, x.Bytes, x.Base.Config.Old = []api.Entry{}, []byte{}, []int{}
	if !Same(x, y) {
		t.Error("lists without elements are one with none")
	}
}

func TestGetIsNew(t *testing.T) { // R3
	b, _ := Put(full())
	got, _ := Get(b)
	clear(b)
	if !Same(got[0], full()) {
		t.Error("memory is shared")
	}
}

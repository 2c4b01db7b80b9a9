package member_test

import (
	"bytes"
	"fmt"
	"slices"
	"testing"

	"watershed/api"
	"watershed/disk"
	"watershed/journal"
	. "watershed/member"
	"watershed/order"
	"watershed/shares"
)

func TestNotTheFirstState(t *testing.T) { // P24.1: voters are those of a journal in the first state alone
	for i, c := range []struct {
		do   func(*journal.Journal) api.Errno
		want []int
	}{
		{func(j *journal.Journal) api.Errno { return j.Sync() }, []int{1}},
		{func(j *journal.Journal) api.Errno { return j.Vote(0, 2) }, nil},
		{func(j *journal.Journal) api.Errno { return j.Vote(2, 0) }, nil},
		{func(j *journal.Journal) api.Errno { return j.Append(1, api.Entry{Kind: api.EntryNothing}) }, nil},
		{func(j *journal.Journal) api.Errno { return j.Base(api.Base{Config: api.Config{Voters: []int{3}}}) }, []int{3}},
		{func(j *journal.Journal) api.Errno { return j.Base(api.Base{Config: api.Config{Old: []int{3}}}) }, nil},
		{func(j *journal.Journal) api.Errno { return j.Base(api.Base{Config: api.Config{Learners: []int{3}}}) }, nil},
		{func(j *journal.Journal) api.Errno { return j.Base(api.Base{Config: api.Config{Want: []int{3}}}) }, nil},
		{func(j *journal.Journal) api.Errno { return j.Base(api.Base{Term: 3}) }, nil},
	} {
		d := disk.New(0)
		j, _ := journal.Open(d, 1)
		ok(t, c.do(j))
		if m := open(t, d, 1, 1); !slices.Equal(m.Config().Voters, c.want) {
			t.Errorf("%d: %v", i, m.Config())
		}
		if m, err := Open(d, 1, 1, shares.First(1), 2, 1); m != nil || err != api.ErrArg {
			t.Errorf("%d: voters that do not rise: %d", i, err)
		}
		if m, err := Open(d, 1, 1, shares.First(1), 6); m != nil || err != api.ErrArg {
			t.Errorf("%d: voters that are none: %d", i, err)
		}
	}
}

func TestPiecesOfOthers(t *testing.T) { // P24.3: only of whom it knows as leader
	m := alone(t, disk.New(0))
	x := someImage(t)
	p := pieceOf(x, 0, len(x.Bytes))
	p.To, p.From, p.Term = 1, 2, m.State().Term
	if l, _ := m.Letter(p); len(l) > 0 || m.Done() != 1 {
		t.Errorf("%+v", l)
	}
}

func TestAllIsSafe(t *testing.T) { // to keep
	d := disk.New(0)
	m := open(t, d, 2, 1, 2, 3)
	l, _ := m.Letter(api.Letter{Kind: api.LetterAsk, Group: 1, From: 1, To: 2, Term: 4})
	if len(l) != 1 || !l[0].Ok || d.Waits() != 0 {
		t.Errorf("a vote: %+v, %d wait", l, d.Waits())
	}
	m.Letter(api.Letter{Kind: api.LetterAppend, Group: 1, From: 1, To: 2, Term: 4})
	entry := api.Entry{Term: 4, Kind: api.EntryNothing}
	l, _ = m.Letter(api.Letter{Kind: api.LetterAppend, Group: 1, From: 1, To: 2, Term: 4, Entries: []api.Entry{entry, entry}})
	if len(l) != 1 || l[0].Index != 2 || d.Waits() != 0 {
		t.Errorf("entries: %+v, %d wait", l, d.Waits())
	}
	j, _ := journal.Open(d, 1)
	if s := j.State(); s.Term != 4 || s.Vote != 1 || len(s.Entries) != 2 {
		t.Errorf("%+v", s)
	}
	b, _ := d.Read("journal.1")
	m.Letter(api.Letter{Kind: api.LetterAppend, Group: 1, From: 1, To: 2, Term: 4, Entries: []api.Entry{entry, entry}})
	m.Tick(0)
	if c, _ := d.Read("journal.1"); !bytes.Equal(b, c) {
		t.Error("nothing was put, but something is kept")
	}
}

func TestFillsWhatCame(t *testing.T) { // to end a call: the image that became the machine is that of which pieces are filled
	x := someImage(t)
	m := open(t, disk.New(0), 2, 1, 2, 3)
	m.Letter(pieceOf(x, 0, len(x.Bytes)))
	for range 10 {
		m.Tick(0)
	}
	term := m.State().Term
	m.Letter(api.Letter{Kind: api.LetterVote, Group: 1, From: 1, To: 2, Term: term, Ok: true})
	l, _ := m.Letter(api.Letter{Kind: api.LetterAck, Group: 1, From: 1, To: 2, Term: term})
	if len(l) != 1 || l[0].Kind != api.LetterPiece || l[0].Group != 1 || l[0].Base.Index != 7 || !bytes.Equal(l[0].Bytes, x.Bytes) || l[0].Size != len(x.Bytes) {
		t.Errorf("%+v", l)
	}
}

func TestTooLong(t *testing.T) { // P24.4
	m, err := Open(disk.New(0), 1, 0, shares.First(1), 1)
	ok(t, err)
	ticks(m, 12)
	var reads []api.Read
	for i := range 6 {
		reads = append(reads, api.Read{Key: fmt.Sprintf("aaaaaaaaaaaaaaaaaaa%d", i), Is: true, Value: "vvvvvvvvvvvvvvvvvvvv"})
	}
	for num := 1; len(m.Machine().Bytes()) <= api.MaxImage; num++ {
		if num == 300 {
			ok(t, m.Compact())
		}
		b, _ := order.Put(order.Order{Kind: order.Decide, Name: api.Name{Client: 1, Num: num}, Commit: true, Reads: reads})
		m.Letter(api.Letter{Kind: api.LetterPropose, From: 1, To: 1, Term: 1, Bytes: b})
	}
	base := m.Base().Index
	if err := m.Compact(); err != api.ErrLong || m.Base().Index != base {
		t.Errorf("%d", err)
	}
}

package log_test

import (
	"bytes"
	"math"
	"reflect"
	"slices"
	"testing"

	"watershed/api"
	. "watershed/log"
)

func base(index, term int, voters ...int) api.Base {
	return api.Base{Index: index, Term: term, Config: api.Config{Voters: voters}}
}

func entry(term int) api.Entry { return api.Entry{Term: term, Kind: api.EntryNothing} }

func command(term int, s string) api.Entry {
	return api.Entry{Term: term, Kind: api.EntryCommand, Command: []byte(s)}
}

func config(term int, voters ...int) api.Entry {
	return api.Entry{Term: term, Kind: api.EntryConfig, Config: api.Config{Voters: voters}}
}

func voters(t *testing.T, l *Log, index int, want ...int) {
	t.Helper()
	if c, i := l.Config(); i != index || !slices.Equal(c.Voters, want) {
		t.Errorf("%v at %d, not %v at %d", c.Voters, i, want, index)
	}
}

// terms is the terms of a log from its base on.
func terms(l *Log) []int {
	var out []int
	for i := l.Base().Index; i <= l.Last(); i++ {
		term, _ := l.Term(i)
		out = append(out, term)
	}
	return out
}

func of(b api.Base, terms ...int) *Log {
	l := New(b)
	for _, term := range terms {
		l.Put(entry(term))
	}
	return l
}

func TestNew(t *testing.T) { // P10.1
	l := New(base(5, 2, 1, 3))
	if b := l.Base(); b.Index != 5 || b.Term != 2 || !slices.Equal(b.Config.Voters, []int{1, 3}) || l.Last() != 5 {
		t.Errorf("%v", b)
	}
	voters(t, l, 5, 1, 3)
	for _, b := range []api.Base{base(-1, -2), base(math.MinInt, 0)} {
		if got := New(b).Base(); got.Index != 0 || got.Term != 0 {
			t.Errorf("%v", got)
		}
	}
	if b := New(base(-1, 4)).Base(); b.Index != 0 || b.Term != 4 {
		t.Errorf("%v", b)
	}
	full := api.Base{Config: api.Config{Voters: []int{1}, Old: []int{2}, Learners: []int{3}, Want: []int{4}}}
	if !reflect.DeepEqual(New(full).Base(), full) {
		t.Error("parts of a config")
	}
}

func TestTermAtFrom(t *testing.T) { // P10.2
	l := New(base(5, 2))
	l.Put(command(2, "a"), command(3, "b"), config(4, 1))
	for index, want := range map[int]int{5: 2, 6: 2, 7: 3, 8: 4, 4: -1, 9: -1, math.MinInt: -1, math.MaxInt: -1, 0: -1} {
		if term, ok := l.Term(index); ok != (want >= 0) || term != max(want, 0) {
			t.Errorf("%d: %d, %v", index, term, ok)
		}
	}
	for _, index := range []int{5, 9, 4, math.MinInt, math.MaxInt} {
		if e, ok := l.At(index); ok || !reflect.DeepEqual(e, api.Entry{}) || len(l.From(index, 9)) > 0 {
			t.Errorf("%d: %v", index, e)
		}
	}
	if e, ok := l.At(7); !ok || !bytes.Equal(e.Command, []byte("b")) || e.Kind != api.EntryCommand {
		t.Errorf("%v", e)
	}
	for _, c := range []struct{ index, most, many int }{{6, 9, 3}, {6, 3, 3}, {6, 2, 2}, {7, math.MaxInt, 2}, {8, 1, 1}, {6, 0, 0}, {6, -1, 0}, {6, math.MinInt, 0}} {
		got := l.From(c.index, c.most)
		if len(got) != c.many || c.many > 0 && got[0].Term != terms(l)[c.index-5] {
			t.Errorf("%v: %v", c, got)
		}
	}
}

func TestPut(t *testing.T) { // P10.3
	l := New(base(5, 2))
	if l.Put() != 5 || l.Put(entry(2)) != 6 || l.Put(entry(2), entry(3)) != 8 || l.Last() != 8 {
		t.Error("the last index")
	}
	if !slices.Equal(terms(l), []int{2, 2, 2, 3}) {
		t.Errorf("%v", terms(l))
	}
	voters(t, l, 5)
	l.Put(config(3, 1, 2), entry(3), config(4, 2))
	voters(t, l, 11, 2)
}

func TestTake(t *testing.T) { // P10.4
	for i, c := range []struct {
		index int
		terms []int
		first int
		ok    bool
		want  []int
	}{
		{6, []int{3}, 6, true, []int{2, 3}},
		{6, []int{2}, 0, true, []int{2, 2, 3, 3}},
		{6, []int{2, 3, 3}, 0, true, []int{2, 2, 3, 3}},
		{6, []int{2, 3, 3, 3}, 9, true, []int{2, 2, 3, 3, 3}},
		{7, []int{3, 4}, 8, true, []int{2, 2, 3, 4}},
		{7, []int{4, 3, 3}, 7, true, []int{2, 2, 4, 3, 3}},
		{9, []int{5}, 9, true, []int{2, 2, 3, 3, 5}},
		{9, nil, 0, true, []int{2, 2, 3, 3}},
		{6, nil, 0, true, []int{2, 2, 3, 3}},
		{10, []int{5}, 0, false, []int{2, 2, 3, 3}},
		{10, nil, 0, false, []int{2, 2, 3, 3}},
		{5, []int{2}, 0, false, []int{2, 2, 3, 3}},
		{-1, []int{2}, 0, false, []int{2, 2, 3, 3}},
		{math.MinInt, []int{2}, 0, false, []int{2, 2, 3, 3}},
		{math.MaxInt, []int{2}, 0, false, []int{2, 2, 3, 3}},
	} {
		l := of(base(5, 2), 2, 3, 3)
		var entries []api.Entry
		for _, term := range c.terms {
			entries = append(entries, entry(term))
		}
		first, ok := l.Take(c.index, entries...)
		if first != c.first || ok != c.ok || !slices.Equal(terms(l), c.want) {
			t.Errorf("%d: %d, %v, %v", i, first, ok, terms(l))
		}
	}
}

func TestTakeConfigs(t *testing.T) { // P10.4
	l := New(base(0, 0, 1))
	l.Put(config(1, 1, 2), entry(1), config(1, 1, 3))
	l.Take(3, entry(2))
	voters(t, l, 1, 1, 2)
	l.Take(4, config(2, 4))
	voters(t, l, 4, 4)
	l.Take(1, entry(3))
	voters(t, l, 0, 1)
}

func TestCompact(t *testing.T) { // P10.5, P10.6
	for index := -1; index <= 10; index++ {
		l := New(base(5, 2, 1))
		l.Put(entry(2), config(3, 1, 2), command(3, "x"), config(4, 3))
		ok := l.Compact(index)
		if ok != (index >= 5 && index <= 9) {
			t.Errorf("%d: %v", index, ok)
		}
		if l.Last() != 9 {
			t.Errorf("%d: last %d", index, l.Last())
		}
		at := max(5, index)
		if !ok {
			at = 5
		}
		voters(t, l, 9, 3)
		b := l.Base()
		want := [][]int{{1}, {1}, {1, 2}, {1, 2}, {3}}[at-5]
		if b.Index != at || b.Term != []int{2, 2, 3, 3, 4}[at-5] || !slices.Equal(b.Config.Voters, want) {
			t.Errorf("%d: %v", index, b)
		}
		if term, is := l.Term(9); !is || term != 4 {
			t.Errorf("%d: %d", index, term)
		}
		if e, is := l.At(8); is != (at < 8) || is && string(e.Command) != "x" {
			t.Errorf("%d: %v", index, e)
		}
	}
	l := New(base(0, 0, 1))
	l.Put(config(1, 2), entry(1))
	l.Compact(2)
	voters(t, l, 2, 2)
	if l.Put(entry(2)) != 3 || !slices.Equal(terms(l), []int{1, 2}) {
		t.Error("behind it goes on")
	}
}

func TestInstall(t *testing.T) { // P10.5
	for i, c := range []struct {
		b    api.Base
		ok   bool
		want []int
	}{
		{base(5, 9, 9), false, []int{2, 2, 3, 3}}, {base(4, 2, 9), false, []int{2, 2, 3, 3}}, {base(-1, 2, 9), false, []int{2, 2, 3, 3}},
		{base(6, 2, 9), true, []int{2, 3, 3}}, {base(7, 3, 9), true, []int{3, 3}}, {base(8, 3, 9), true, []int{3}},
		{base(7, 2, 9), true, []int{2}}, {base(9, 3, 9), true, []int{3}}, {base(100, 7, 9), true, []int{7}},
	} {
		l := of(base(5, 2, 1), 2, 3, 3)
		if ok := l.Install(c.b); ok != c.ok || !slices.Equal(terms(l), c.want) {
			t.Errorf("%d: %v, %v", i, ok, terms(l))
		}
		if c.ok {
			voters(t, l, c.b.Index, 9)
		} else {
			voters(t, l, 5, 1)
		}
	}
	l := New(base(0, 0, 1))
	l.Put(config(1, 2), entry(1), config(2, 3))
	l.Install(base(2, 1, 7))
	voters(t, l, 3, 3)
}

func TestNone(t *testing.T) { // R5
	for _, l := range []*Log{nil, {}} {
		c, i := l.Config()
		_, at := l.At(1)
		_, term := l.Term(0)
		_, taken := l.Take(1, entry(1))
		if !reflect.DeepEqual(l.Base(), api.Base{}) || l.Last() != 0 || at || term || taken || len(l.From(1, 1)) > 0 || i != 0 || len(c.Voters) > 0 || l.Put(entry(1)) != 0 || l.Compact(0) || l.Install(base(1, 1)) || l.Last() != 0 {
			t.Error("a log that is none")
		}
	}
}

func TestMemory(t *testing.T) { // R3
	b, c, v := base(0, 0, 1), command(1, "abc"), config(1, 2)
	l := New(b)
	l.Put(c, v)
	l.Take(3, c)
	b.Config.Voters[0], c.Command[0], v.Config.Voters[0] = 9, 'x', 9
	e, _ := l.At(1)
	f := l.From(2, 2)
	got, _ := l.Config()
	e.Command[0], f[0].Config.Voters[0], f[1].Command[0], got.Voters[0], l.Base().Config.Voters[0] = 'y', 8, 'y', 8, 8
	voters(t, l, 2, 2)
	if again := l.From(1, 3); string(again[0].Command) != "abc" || string(again[2].Command) != "abc" || l.Base().Config.Voters[0] != 1 {
		t.Error("memory is shared")
	}
	in := base(1, 1, 5)
	l.Install(in)
	in.Config.Voters[0] = 9
	if l.Base().Config.Voters[0] != 5 {
		t.Error("memory is shared")
	}
}

package quorum_test

import (
	"slices"
	"testing"

	"watershed/api"
	. "watershed/quorum"
)

func cf(rows ...[]int) api.Config {
	rows = append(rows, nil, nil, nil, nil)
	return api.Config{Voters: rows[0], Old: rows[1], Learners: rows[2], Want: rows[3]}
}

func same(a, b api.Config) bool {
	return slices.Equal(a.Voters, b.Voters) && slices.Equal(a.Old, b.Old) && slices.Equal(a.Learners, b.Learners) && slices.Equal(a.Want, b.Want)
}

type r = []int

// subsets is all rows of the nodes 1 to n.
func subsets(n int) []r {
	var l []r
	for m := range 1 << n {
		var s r
		for k := range n {
			if m>>k&1 == 1 {
				s = append(s, k+1)
			}
		}
		l = append(l, s)
	}
	return l
}

func TestRight(t *testing.T) { // P6.1
	for _, c := range []api.Config{{}, cf(r{1}), cf(r{1, 2, 3, 4, 5}), cf(r{1, 2}, nil, r{3}, r{2, 3}), cf(r{1, 2}, nil, nil, r{1}), cf(r{3, 4}, r{1, 2, 3}, nil, r{3, 4}), cf(r{1}, r{1}, nil, r{1})} {
		if !Right(c) {
			t.Errorf("%v is right", c)
		}
	}
	for _, c := range []api.Config{cf(r{0}), cf(r{6}), cf(r{2, 1}), cf(r{1, 1}), cf(r{1}, r{2, 2}, nil, r{1}), cf(r{1}, nil, r{3, 2}, r{2, 3}), cf(r{1}, nil, nil, r{2, 1}),
		cf(nil, r{1}), cf(nil, nil, r{1}), cf(nil, nil, nil, r{1}), cf(nil, nil, r{1}, r{1}), cf(nil, r{1}, nil, r{1}),
		cf(r{1}, r{2}), cf(r{1}, r{2, 3}), cf(r{1}, r{2}, nil, r{2}), cf(r{1}, r{2}, r{3}, r{1}), cf(r{1}, nil, r{2}), cf(r{1}, nil, r{1}, r{1}), cf(r{1}, nil, nil, r{1}),
		cf(r{1, 2}, nil, r{3}, r{3, 4}), cf(r{1, 2}, nil, r{3, 4}, r{3}), cf(r{1, 2}, nil, nil, r{3}), cf(r{1, 2}, nil, r{2}, r{2})} {
		if Right(c) {
			t.Errorf("%v is not right", c)
		}
	}
}

func TestVotesHasNodes(t *testing.T) { // P6.1
	c := cf(r{3, 4}, r{1, 3}, r{5}, r{2})
	for n, want := range []struct{ votes, has bool }{{}, {true, true}, {}, {true, true}, {true, true}, {false, true}, {}} {
		if Votes(c, n) != want.votes || Has(c, n) != want.has {
			t.Errorf("%d: %v, %v", n, Votes(c, n), Has(c, n))
		}
	}
	if l := Nodes(c); !slices.Equal(l, r{1, 3, 4, 5}) {
		t.Errorf("%v", l)
	}
	wild := cf(r{4, 2, 4}, r{2, 1}, r{4, 3}, r{5})
	if l := Nodes(wild); !slices.Equal(l, r{1, 2, 3, 4}) || !slices.Equal(wild.Voters, r{4, 2, 4}) {
		t.Errorf("%v", l)
	}
	if !Votes(wild, 4) || !Has(wild, 3) || Votes(wild, 3) || Has(wild, 5) || len(Nodes(api.Config{})) != 0 {
		t.Error("rows that do not rise")
	}
}

func TestAgrees(t *testing.T) { // P6.2
	for _, c := range []struct {
		c    api.Config
		set  r
		want bool
	}{
		{cf(r{1}), r{1}, true}, {cf(r{1}), nil, false}, {cf(r{1}), r{2}, false},
		{cf(r{1, 2}), r{1}, false}, {cf(r{1, 2}), r{2, 1}, true}, {cf(r{1, 2}), r{1, 1, 1}, false},
		{cf(r{1, 2, 3}), r{1, 3}, true}, {cf(r{1, 2, 3}), r{3, 4, 5}, false}, {cf(r{1, 2, 3, 4}), r{1, 2}, false}, {cf(r{1, 2, 3, 4, 5}), r{1, 2, 5}, true},
		{cf(r{3, 4}, r{1, 2, 3}, nil, r{3, 4}), r{3, 4}, false}, {cf(r{3, 4}, r{1, 2, 3}, nil, r{3, 4}), r{1, 3, 4}, true},
		{cf(r{3, 4}, r{1, 2, 3}, nil, r{3, 4}), r{1, 2, 3}, false},
		{cf(r{1, 2}, nil, r{3}, r{1, 3}), r{1, 3}, false}, {cf(r{1, 2}, nil, r{3}, r{1, 3}), r{1, 2, 0, -7}, true},
		{api.Config{}, r{1, 2, 3}, false}, {cf(r{2, 1}), r{1, 2}, false}, {cf(r{1}, r{2}), r{1, 2}, false},
	} {
		if Agrees(c.c, c.set...) != c.want {
			t.Errorf("%v, %v", c.c, c.set)
		}
	}
}

func TestBegin(t *testing.T) { // P6.3
	for _, c := range []struct {
		c    api.Config
		want r
		to   api.Config
		err  api.Errno
	}{
		{cf(r{1, 2, 3}), r{3, 4}, cf(r{1, 2, 3}, nil, r{4}, r{3, 4}), api.OK},
		{cf(r{1, 2, 3}), r{1}, cf(r{1, 2, 3}, nil, nil, r{1}), api.OK},
		{cf(r{2}), r{1, 5}, cf(r{2}, nil, r{1, 5}, r{1, 5}), api.OK},
		{cf(r{2}), nil, cf(), api.ErrArg}, {cf(r{2}), r{0}, cf(), api.ErrArg}, {cf(r{2}), r{6}, cf(), api.ErrArg}, {cf(r{2}), r{2, 1}, cf(), api.ErrArg}, {cf(r{2}), r{1, 1}, cf(), api.ErrArg},
		{cf(), r{1}, cf(), api.ErrArg}, {cf(r{2, 1}), r{1}, cf(), api.ErrArg}, {cf(r{1}, nil, r{2}, r{2}), nil, cf(), api.ErrArg},
		{cf(r{1}, nil, r{2}, r{2}), r{1}, cf(), api.ErrChange}, {cf(r{1}, r{2}, nil, r{1}), r{3}, cf(), api.ErrChange},
		{cf(r{1, 2}), r{1, 2}, cf(), api.ErrThere},
	} {
		if got, err := Begin(c.c, c.want...); err != c.err || !same(got, c.to) {
			t.Errorf("%v, %v: %v, %d", c.c, c.want, got, err)
		}
	}
}

func TestNext(t *testing.T) { // P6.4
	for _, c := range []struct {
		c, to api.Config
		ok    bool
	}{
		{cf(r{1, 2, 3}, nil, r{4}, r{3, 4}), cf(r{3, 4}, r{1, 2, 3}, nil, r{3, 4}), true},
		{cf(r{3, 4}, r{1, 2, 3}, nil, r{3, 4}), cf(r{3, 4}), true},
		{cf(r{3, 4}), cf(), false}, {cf(), cf(), false}, {cf(r{1}, nil, r{3}, r{2}), cf(), false}, {cf(r{1}, r{2}), cf(), false},
	} {
		if got, ok := Next(c.c); ok != c.ok || !same(got, c.to) {
			t.Errorf("%v: %v, %v", c.c, got, ok)
		}
	}
}

func TestMemory(t *testing.T) { // R3
	v, want := r{1, 2}, r{2, 3}
	b, _ := Begin(cf(v), want...)
	b.Voters[0], b.Want[0] = 9, 9
	n, _ := Next(cf(r{1}, nil, r{2}, r{2}))
	n.Voters[0] = 7
	if !slices.Equal(v, r{1, 2}) || !slices.Equal(want, r{2, 3}) || b.Learners[0] != 3 || n.Want[0] != 2 || n.Old[0] != 1 {
		t.Error("lists share memory")
	}
	for _, c := range []api.Config{cf(r{1, 2}, r{1}, nil, r{1, 2}), cf(r{1}, nil, r{2}, r{1, 2})} {
		m, _ := Next(c)
		for _, l := range []r{m.Voters, m.Old, m.Want} {
			clear(l)
		}
		if c.Voters[0] != 1 || c.Want[0] != 1 || c.Want[1] != 2 {
			t.Error("lists share memory")
		}
	}
}

// meet tells whether two sets that agree always have a node of the row both.
func meet(row, a, b r) bool {
	for _, n := range row {
		if slices.Contains(a, n) && slices.Contains(b, n) {
			return true
		}
	}
	return len(row) == 0
}

func TestAgreeingSetsMeet(t *testing.T) { // P6.5
	sets := subsets(5)
	for _, v := range subsets(4) {
		for _, want := range sets {
			c, err := Begin(cf(v), want...)
			if err != api.OK {
				continue
			}
			for range 3 {
				if !Right(c) {
					t.Fatalf("%v is not right", c)
				}
				next, ok := Next(c)
				for _, a := range sets {
					for _, b := range sets {
						if Agrees(c, a...) && Agrees(c, b...) && (!meet(c.Voters, a, b) || !meet(c.Old, a, b)) {
							t.Fatalf("%v: %v, %v", c, a, b)
						}
						if ok && Agrees(c, a...) && Agrees(next, b...) && !meet(sets[31], a, b) {
							t.Fatalf("%v, %v: %v, %v", c, next, a, b)
						}
					}
				}
				if !ok {
					break
				}
				c = next
			}
		}
	}
}

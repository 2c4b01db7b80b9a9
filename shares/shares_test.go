package shares_test

import (
	"fmt"
	"slices"
	"testing"

	"watershed/api"
	. "watershed/shares"
	"watershed/span"
)

func sp(lo, hi string) api.Span { return api.Span{Lo: lo, Hi: hi} }

func sh(lo, hi string, group, epoch int) api.Share {
	return api.Share{Span: sp(lo, hi), Group: group, Epoch: epoch}
}

func of(epoch int, l ...api.Share) api.Shares { return api.Shares{Epoch: epoch, List: l} }

func same(a, b api.Shares) bool { return a.Epoch == b.Epoch && slices.Equal(a.List, b.List) }

// row is so many right shares, of the groups 1 and 2 by turns, none having all keys.
func row(n, epoch int) api.Shares {
	s, lo := api.Shares{Epoch: epoch}, ""
	for i := range n {
		hi := fmt.Sprintf("k%02d", i)
		if i == n-1 {
			hi = ""
		}
		s.List = append(s.List, sh(lo, hi, 1+i%2, 1))
		lo = hi
	}
	return s
}

func TestRight(t *testing.T) { // P5.1
	for _, s := range []api.Shares{First(1), of(9, sh("", "m", 4, 9), sh("m", "", 1, 1)), of(api.MaxEpoch, sh("", "", 1, api.MaxEpoch)), row(40, 5)} {
		if !Right(s) {
			t.Errorf("%v are right", s)
		}
	}
	for _, s := range []api.Shares{{}, of(1), of(0, sh("", "", 1, 1)), of(api.MaxEpoch+1, sh("", "", 1, 1)), of(1, sh("", "", 0, 1)), of(1, sh("", "", 5, 1)),
		of(1, sh("", "", 1, 0)), of(1, sh("", "", 1, 2)), of(2, sh("", "m", 1, 1)), of(2, sh("", "m", 1, 1), sh("n", "", 2, 1)), row(41, 5), of(-1, sh("", "", 1, -1))} {
		if Right(s) {
			t.Errorf("%v are not right", s)
		}
	}
}

func TestFirst(t *testing.T) { // P5.1
	for g, want := range map[int]int{1: 1, 2: 2, 4: 4, 0: 1, 5: 1, -3: 1} {
		if s := First(g); !same(s, of(1, sh("", "", want, 1))) {
			t.Errorf("%d: %v", g, s)
		}
	}
}

func TestOfAndIn(t *testing.T) { // P5.2
	s := of(3, sh("", "f", 1, 1), sh("f", "m", 2, 3), sh("m", "", 1, 2))
	for k, want := range map[string]int{"a": 0, "ezz": 0, "f": 1, "lz": 1, "m": 2, "zz": 2} {
		if x, ok := Of(s, k); !ok || x != s.List[want] {
			t.Errorf("%q: %v", k, x)
		}
	}
	for _, k := range []string{"", "A", "a-"} {
		if x, ok := Of(s, k); ok || x != (api.Share{}) {
			t.Errorf("%q: %v", k, x)
		}
	}
	for in, want := range map[api.Span]int{sp("", "f"): 0, sp("a", "b"): 0, sp("f", "m"): 1, sp("m", ""): 2, sp("x", ""): 2} {
		if x, ok := In(s, in); !ok || x != s.List[want] {
			t.Errorf("%v: %v", in, x)
		}
	}
	for _, in := range []api.Span{sp("", ""), sp("a", "g"), sp("f", ""), sp("c", "b"), sp("A", "b")} {
		if x, ok := In(s, in); ok || x != (api.Share{}) {
			t.Errorf("%v: %v", in, x)
		}
	}
	s.Epoch = 1
	if _, ok := Of(s, "a"); ok {
		t.Error("of shares that are not right")
	}
	if _, ok := In(s, sp("a", "b")); ok {
		t.Error("of shares that are not right")
	}
}

func TestGroups(t *testing.T) { // P5.2
	s := of(3, sh("", "f", 4, 1), sh("f", "m", 2, 3), sh("m", "", 4, 2))
	for _, c := range []struct {
		keys []string
		want []int
		ok   bool
	}{
		{nil, nil, true}, {[]string{"a"}, []int{4}, true}, {[]string{"z", "a", "g", "g"}, []int{2, 4}, true},
		{[]string{"a", ""}, nil, false}, {[]string{"B"}, nil, false},
	} {
		if got, ok := Groups(s, c.keys...); ok != c.ok || !slices.Equal(got, c.want) {
			t.Errorf("%v: %v, %v", c.keys, got, ok)
		}
	}
	if got, ok := Groups(api.Shares{}); ok || len(got) > 0 {
		t.Error("of shares that are not right")
	}
}

func TestTurn(t *testing.T) { // P5.3
	two := of(2, sh("", "m", 1, 1), sh("m", "", 2, 2))
	for _, c := range []struct {
		s     api.Shares
		in    api.Span
		group int
		want  api.Shares
	}{
		{First(1), sp("m", ""), 2, two},
		{First(1), sp("", ""), 2, of(2, sh("", "", 2, 2))},
		{First(1), sp("c", "f"), 4, of(2, sh("", "c", 1, 1), sh("c", "f", 4, 2), sh("f", "", 1, 1))},
		{First(3), sp("", "c"), 4, of(2, sh("", "c", 4, 2), sh("c", "", 3, 1))},
		{two, sp("m", ""), 1, of(3, sh("", "m", 1, 1), sh("m", "", 1, 3))},
		{two, sp("p", "q"), 3, of(3, sh("", "m", 1, 1), sh("m", "p", 2, 2), sh("p", "q", 3, 3), sh("q", "", 2, 2))},
	} {
		if got, err := Turn(c.s, c.in, c.group); err != api.OK || !same(got, c.want) {
			t.Errorf("%v, %v, %d: %v, %d", c.s, c.in, c.group, got, err)
		}
	}
	if same(two, First(1)) || !same(First(1), of(1, sh("", "", 1, 1))) {
		t.Error("an argument was changed")
	}
}

func TestTurnErrors(t *testing.T) { // P5.3
	last := First(1)
	last.Epoch = api.MaxEpoch
	for i, c := range []struct {
		s     api.Shares
		in    api.Span
		group int
		err   api.Errno
	}{
		{api.Shares{}, sp("", ""), 2, api.ErrArg},
		{First(1), sp("b", "a"), 2, api.ErrArg},
		{First(1), sp("", ""), 0, api.ErrArg},
		{First(1), sp("", ""), 5, api.ErrArg},
		{row(3, 9), sp("", ""), 1, api.ErrNone},
		{row(3, 9), sp("a", "k01"), 1, api.ErrNone},
		{First(1), sp("a", "b"), 1, api.ErrThere},
		{last, sp("a", "b"), 1, api.ErrThere},
		{last, sp("a", "b"), 2, api.ErrFull},
		{row(40, 9), sp("k00a", ""), 1, api.ErrNone},
		{row(40, 9), sp("a", "b"), 2, api.ErrFull},
		{row(40, 9), sp("", "k00"), 2, api.OK},
		{row(39, 9), sp("a", "k00"), 2, api.OK},
		{row(39, 9), sp("a", "b"), 2, api.ErrFull},
		{row(38, 9), sp("a", "b"), 2, api.OK},
	} {
		got, err := Turn(c.s, c.in, c.group)
		if err != c.err || err != api.OK && !same(got, api.Shares{}) {
			t.Errorf("%d: %v, %d, not %d", i, got, err, c.err)
		}
	}
}

func TestTurnsFollow(t *testing.T) { // P5.4
	keys := []string{"0", "a", "b", "ba", "c", "m", "n", "z", "zz"}
	s := First(1)
	for i := range 200 {
		lo, hi := keys[i*7%len(keys)], keys[i*5%len(keys)]
		if i%3 == 0 {
			hi = ""
		}
		in, group := sp(lo, hi), 1+i*3%4
		next, err := Turn(s, in, group)
		if err != api.OK {
			continue
		}
		if !Right(next) {
			t.Fatalf("%v is not right", next)
		}
		for _, k := range keys {
			a, _ := Of(s, k)
			b, _ := Of(next, k)
			if span.Has(in, k) {
				if b.Group != group || b.Epoch <= a.Epoch || a.Group == group {
					t.Fatalf("%q: %v, %v", k, a, b)
				}
			} else if a.Group != b.Group || a.Epoch != b.Epoch {
				t.Fatalf("%q: %v, %v", k, a, b)
			}
		}
		s = next
	}
	if s.Epoch < 5 {
		t.Error("hardly a turn")
	}
}

func TestTurnIsNew(t *testing.T) { // R3
	s := row(3, 5)
	s.List = append(make([]api.Share, 0, 50), s.List...)
	want := slices.Clone(s.List)
	got, _ := Turn(s, sp("a", "b"), 3)
	got.List[0].Group = 9
	if !slices.Equal(s.List, want) {
		t.Error("an argument was changed")
	}
}

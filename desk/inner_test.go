package desk

import (
	"testing"

	"watershed/api"
	"watershed/world"
)

func judged(t *testing.T, want string, l ...world.Tale) {
	t.Helper()
	d := &desk{}
	if d.judge(l...); d.String() != want {
		t.Errorf("%q, not %q", d.String(), want)
	}
}

func TestJudge(t *testing.T) { // fit
	name := func(c int) api.Name { return api.Name{Client: c, Num: 1} }
	called := func(c int, a api.Act) world.Tale {
		return world.Tale{Kind: world.Called, Name: name(c), Acts: []api.Act{a}}
	}
	decided := func(c, index int, r ...api.Read) world.Tale {
		return world.Tale{Kind: world.Decided, Name: name(c), Index: index, Commit: true, Reads: r}
	}
	put, get := api.Act{Kind: api.ActPut, Key: "k", Value: "5"}, api.Act{Kind: api.ActGet, Key: "k"}
	read := api.Read{Key: "k", Is: true, Value: "5"}
	replied := world.Tale{Kind: world.Replied, Name: name(2), Commit: true, Reads: []api.Read{read}}
	judged(t, "unread\n", decided(1, 1))
	judged(t, "fits 2\nintime\n", called(1, put), called(2, get), decided(1, 1), decided(2, 2, read))
	judged(t, "unfit 0 4\nintime\n", called(1, put), called(2, get), decided(1, 2), decided(2, 1, read))
	judged(t, "unfit 1 4\nintime\n", called(1, put), called(2, get), decided(1, 1), decided(2, 2))
	judged(t, "fits 2\nlate 0 1\n", called(2, get), decided(2, 2, read), replied, called(1, put), decided(1, 1))
}

func TestTaleLines(t *testing.T) {
	n := api.Name{Client: 3, Num: 12}
	reads := []api.Read{{Key: "a", Is: true, Value: "x"}, {Key: "b"}, {Key: "c", Is: true}}
	for _, c := range []struct {
		x    world.Tale
		want string
	}{
		{world.Tale{Kind: world.Replied, Name: n}, "replied 3.12 abort\n"}, {world.Tale{Kind: world.Replied, Name: n, Commit: true, Reads: reads}, "replied 3.12 commit a=x b c=\n"}, {world.Tale{Kind: world.Replied, Name: n, Commit: true}, "replied 3.12 commit\n"},
		{world.Tale{Kind: world.Led, Node: 1, Group: 2, Term: 3}, "led 1 2 3\n"}, {world.Tale{Kind: world.Owned, Node: 1, Group: 2, Stretch: api.Stretch{Span: api.Span{Hi: "m"}, Epoch: 7}}, "owned 1 2 - m 7\n"},
		{world.Tale{Kind: world.Decided, Node: 1, Index: 9, Name: n}, "decided 1 9 3.12 abort\n"}, {world.Tale{Kind: world.Decided, Node: 1, Index: 9, Name: n, Commit: true, Reads: reads}, "decided 1 9 3.12 commit a=x b c=\n"},
		{world.Tale{Kind: world.Turned, Node: 4, Shares: api.Shares{Epoch: 8}}, "turned 4 8\n"}, {world.Tale{Kind: world.Called, Name: n}, ""}, {world.Tale{Kind: world.Applied, Node: 1}, ""},
	} {
		d := &desk{}
		if d.tale(c.x); d.String() != c.want {
			t.Errorf("%q, not %q", d.String(), c.want)
		}
	}
}

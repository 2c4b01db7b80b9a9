package world_test

import (
	"reflect"
	"slices"
	"testing"

	"watershed/api"
	"watershed/order"
	"watershed/shares"
	. "watershed/world"
)

func get(key string) api.Act          { return api.Act{Kind: api.ActGet, Key: key} }
func put(key, value string) api.Act   { return api.Act{Kind: api.ActPut, Key: key, Value: value} }
func add(key string, num int) api.Act { return api.Act{Kind: api.ActAdd, Key: key, Num: num} }
func is2(key, value string) api.Read  { return api.Read{Key: key, Is: true, Value: value} }

func all(l ...int) [][]int {
	var s [][]int
	for range 5 {
		s = append(s, l)
	}
	return s
}

func newWorld(t *testing.T, nodes, size int) *World {
	t.Helper()
	var l []int
	for n := range nodes {
		l = append(l, n+1)
	}
	w, err := New(Setting{Nodes: nodes, Size: size, First: 1, Seats: all(l...)})
	if err != api.OK {
		t.Fatalf("error %d", err)
	}
	return w
}

// does expects the error of a step.
func does(t *testing.T, w *World, want api.Errno, x Step) {
	t.Helper()
	if errs := w.Do(x); !slices.Equal(errs, []api.Errno{want}) {
		t.Errorf("%+v: %v, not %d", x, errs, want)
	}
}

func calm(t *testing.T, w *World, rounds int) {
	t.Helper()
	does(t, w, api.OK, Step{Kind: Calm, Num: rounds})
}

func of(l []Tale, kind TaleKind) []Tale {
	return slices.DeleteFunc(slices.Clone(l), func(t Tale) bool { return t.Kind != kind })
}

func TestNewErrors(t *testing.T) { // P29.1
	for i, s := range []Setting{{}, {Nodes: 0, First: 1, Seats: all(1)}, {Nodes: 6, First: 1, Seats: all(1)}, {Nodes: 1, First: 0, Seats: all(1)}, {Nodes: 1, First: 5, Seats: all(1)}, {Nodes: 1, Size: -1, First: 1, Seats: all(1)},
		{Nodes: 1, First: 1, Seats: append(all(1), nil)}, {Nodes: 1, First: 1, Seats: all(2)}, {Nodes: 2, First: 1, Seats: all(2, 1)}, {Nodes: 2, First: 1, Seats: all(0, 1)}, {Nodes: 1, First: 1}, {Nodes: 1, First: 1, Seats: [][]int{{1}}},
		{Nodes: 1, First: 1, Seats: [][]int{nil, {1}}}, {Nodes: 1, First: 2, Seats: [][]int{{1}, {1}, nil}}} {
		if w, err := New(s); w != nil || err != api.ErrArg {
			t.Errorf("%d: %d", i, err)
		}
	}
	if w, err := New(Setting{Nodes: 1, Size: 20, First: 1, Seats: all(1)}); w != nil || err != api.ErrFull {
		t.Errorf("%d", err)
	}
	if _, err := New(Setting{Nodes: 5, First: 4, Seats: [][]int{{2}, nil, nil, nil, {1, 5}}}); err != api.OK {
		t.Errorf("%d", err)
	}
}

func TestNew(t *testing.T) { // P29.1, P29.3, P29.4
	seats := [][]int{{1, 2}, nil, {2}}
	w, err := New(Setting{Nodes: 3, First: 2, Seats: seats})
	if err != api.OK {
		t.Fatalf("%d", err)
	}
	seats[0][0] = 9
	for n := -1; n <= 6; n++ {
		if is := n >= 1 && n <= 3; (w.Node(n) != nil) != is || (w.Disk(n) != nil) != is {
			t.Errorf("place %d", n)
		}
	}
	open := api.Stretch{Epoch: 1, State: api.StretchOpen}
	var want []Tale
	for n := 1; n <= 3; n++ {
		want = append(want, Tale{Kind: Owned, Node: n, Group: 2, Stretch: open}, Tale{Kind: Turned, Node: n, Shares: shares.First(2)})
	}
	if got := w.History(); !reflect.DeepEqual(got, want) {
		t.Errorf("%+v", got)
	}
	if w.Net().Many() != 0 || len(w.Open()) != 0 || !slices.Equal(w.Node(3).Config(0).Voters, []int{1, 2}) || !slices.Equal(w.Node(1).Config(0).Voters, []int{1, 2}) {
		t.Error("new")
	}
}

func TestExample(t *testing.T) { // P29.2 to P29.4, example 1
	w := newWorld(t, 1, 0)
	does(t, w, api.OK, Step{Kind: Call, Node: 1, Client: 1, Acts: []api.Act{add("k", 5)}})
	name := api.Name{Client: 1, Num: 1}
	if l := w.Open(); !slices.Equal(l, []api.Name{name}) {
		t.Errorf("%v", l)
	}
	calm(t, w, 60)
	if len(w.Open()) != 0 {
		t.Error("not replied")
	}
	l := w.History()
	if got := of(l, Called); len(got) != 1 || !reflect.DeepEqual(got[0], Tale{Kind: Called, Name: name, Acts: []api.Act{add("k", 5)}}) {
		t.Errorf("%+v", got)
	}
	if got := of(l, Replied); len(got) != 1 || !reflect.DeepEqual(got[0], Tale{Kind: Replied, Name: name, Commit: true, Reads: []api.Read{{Key: "k"}}}) {
		t.Errorf("%+v", got)
	}
	if got := of(l, Decided); len(got) != 1 || !reflect.DeepEqual(got[0], Tale{Kind: Decided, Node: 1, Index: got[0].Index, Name: name, Commit: true, Reads: []api.Read{{Key: "k"}}}) || got[0].Index < 3 {
		t.Errorf("%+v", got)
	}
	led := of(l, Led)
	if len(led) != 5 || !reflect.DeepEqual(led[4], Tale{Kind: Led, Node: 1, Group: 4, Term: 1}) {
		t.Errorf("%+v", led)
	}
	prepare, _ := order.Put(order.Order{Kind: order.Prepare, Name: name, Epoch: 1, Acts: []api.Act{add("k", 5)}})
	if got := of(l, Applied); !slices.ContainsFunc(got, func(x Tale) bool {
		return reflect.DeepEqual(x, Tale{Kind: Applied, Node: 1, Group: 1, Index: 2, Command: prepare})
	}) {
		t.Errorf("%+v", got)
	}
	kept := slices.Clone(prepare)
	at := func(kind TaleKind) int { return slices.IndexFunc(l, func(x Tale) bool { return x.Kind == kind }) }
	if at(Called) != 2 || at(Replied) > at(Decided) || at(Decided) < at(Applied) || l[at(Decided)-1].Kind != Applied || at(Led) < at(Decided) {
		t.Errorf("%+v", l)
	}
	for _, x := range l {
		clear(x.Acts)
		clear(x.Reads)
		clear(x.Command)
		clear(x.Shares.List)
	}
	again := w.History()
	if of(again, Decided)[0].Reads[0].Key != "k" || of(again, Replied)[0].Reads[0].Key != "k" || !slices.ContainsFunc(of(again, Applied), func(x Tale) bool { return slices.Equal(x.Command, kept) }) {
		t.Error("memory is shared")
	}
	if of(again, Called)[0].Acts[0].Key != "k" || of(w.History(), Turned)[0].Shares.List[0].Group != 1 {
		t.Error("memory is shared")
	}
}

func TestStepErrors(t *testing.T) { // P29.2
	w := newWorld(t, 2, 0)
	does(t, w, api.OK, Step{Kind: Crash, Node: 2})
	acts := []api.Act{get("k")}
	for _, c := range []struct {
		x   Step
		err api.Errno
	}{
		{Step{}, api.ErrArg}, {Step{Kind: 14}, api.ErrArg}, {Step{Kind: 200}, api.ErrArg},
		{Step{Kind: Call, Node: 9, Acts: acts}, api.ErrArg}, {Step{Kind: Call, Node: 1, Client: 9, Acts: acts}, api.ErrArg}, {Step{Kind: Call, Node: 2, Client: 1}, api.ErrArg}, {Step{Kind: Call, Node: 2, Client: 1, Acts: acts}, api.ErrNone}, {Step{Kind: Call, Node: 3, Client: 1, Acts: acts}, api.ErrNone},
		{Step{Kind: Again, Node: 1}, api.ErrArg}, {Step{Kind: Again, Node: 1, Client: 1}, api.ErrNone}, {Step{Kind: Again, Node: 2, Client: 9}, api.ErrArg},
		{Step{Kind: Handoff, Node: 2, Group: 5}, api.ErrArg}, {Step{Kind: Handoff, Node: 2, Group: -1}, api.ErrArg}, {Step{Kind: Handoff, Node: 2, Group: 1}, api.ErrNone}, {Step{Kind: Handoff, Node: 1, Group: 0}, api.ErrArg}, {Step{Kind: Handoff, Node: 1, Group: 2}, api.ErrLeader},
		{Step{Kind: Change, Node: 2, Group: 9, Want: []int{3}}, api.ErrArg}, {Step{Kind: Change, Node: 2, Group: 9, Want: []int{2}}, api.ErrNone}, {Step{Kind: Change, Node: 1, Group: 9, Want: []int{2}}, api.ErrArg}, {Step{Kind: Change, Node: 1, Group: 0, Want: []int{2}}, api.ErrLeader},
		{Step{Kind: Compact, Node: 2, Group: 9}, api.ErrNone}, {Step{Kind: Compact, Node: 1, Group: 9}, api.ErrArg}, {Step{Kind: Compact, Node: 1, Group: 1}, api.ErrNone},
		{Step{Kind: Deliver, Node: 1, To: 2}, api.ErrNone}, {Step{Kind: Deliver, Node: 9, To: -2}, api.ErrNone}, {Step{Kind: Lose, Node: 1, To: 2}, api.ErrNone}, {Step{Kind: Twice, Node: 1, To: 2}, api.ErrNone}, {Step{Kind: Forward, Node: 1, To: 2}, api.ErrNone},
		{Step{Kind: Tick, Node: 2}, api.ErrNone}, {Step{Kind: Tick, Node: 0}, api.ErrNone}, {Step{Kind: Crash, Node: 2}, api.ErrNone}, {Step{Kind: Crash, Node: 5}, api.ErrNone},
		{Step{Kind: Start, Node: 1}, api.ErrThere}, {Step{Kind: Start, Node: 3}, api.ErrArg}, {Step{Kind: Start, Node: 0}, api.ErrArg}, {Step{Kind: Calm, Num: -1}, api.ErrArg}, {Step{Kind: Calm, Num: 2001}, api.ErrArg},
	} {
		was := w.History()
		does(t, w, c.err, c.x)
		if !reflect.DeepEqual(was, w.History()) || len(w.Open()) > 0 {
			t.Errorf("%+v: something has happened", c.x)
		}
	}
	if errs := w.Do(Step{Kind: Start, Node: 2}, Step{Kind: Start, Node: 2}, Step{}); !slices.Equal(errs, []api.Errno{api.OK, api.ErrThere, api.ErrArg}) || len(w.Do()) > 0 {
		t.Errorf("%v", errs)
	}
}

func TestCallsAndAgain(t *testing.T) { // P29.2
	w := newWorld(t, 1, 0)
	calm(t, w, 20)
	does(t, w, api.ErrArg, Step{Kind: Call, Node: 1, Client: 3, Acts: []api.Act{get("K")}})
	does(t, w, api.OK, Step{Kind: Call, Node: 1, Client: 3, Acts: []api.Act{add("k", 1)}})
	does(t, w, api.OK, Step{Kind: Again, Node: 1, Client: 3})
	does(t, w, api.OK, Step{Kind: Call, Node: 1, Client: 3, Acts: []api.Act{get("k")}})
	l := w.History()
	var replies []Tale
	for _, x := range of(l, Replied) {
		replies = append(replies, Tale{Name: x.Name, Commit: x.Commit, Reads: x.Reads})
	}
	want := []Tale{{Name: api.Name{Client: 3, Num: 1}, Commit: true, Reads: []api.Read{{Key: "k"}}}, {Name: api.Name{Client: 3, Num: 1}, Commit: true, Reads: []api.Read{{Key: "k"}}}, {Name: api.Name{Client: 3, Num: 2}, Commit: true, Reads: []api.Read{is2("k", "1")}}}
	if !reflect.DeepEqual(replies, want) || len(of(l, Called)) != 2 || len(w.Open()) > 0 {
		t.Errorf("%+v", replies)
	}
	two := newWorld(t, 2, 0)
	does(t, two, api.OK, Step{Kind: Call, Node: 1, Client: 3, Acts: []api.Act{add("k", 1)}})
	does(t, two, api.ErrThere, Step{Kind: Again, Node: 1, Client: 3})
	does(t, two, api.OK, Step{Kind: Again, Node: 2, Client: 3})
	calm(t, two, 100)
	if got := of(two.History(), Replied); len(got) != 2 || !reflect.DeepEqual(got[0], got[1]) || len(two.Open()) > 0 {
		t.Errorf("%+v", got)
	}
}

func TestLetters(t *testing.T) { // P29.2
	w := newWorld(t, 3, 0)
	for range 10 {
		does(t, w, api.OK, Step{Kind: Tick, Node: 1})
	}
	if n := w.Net().Many(); n != 10 {
		t.Fatalf("%d letters", n)
	}
	first := w.Net().Waiting(1, 2)
	does(t, w, api.OK, Step{Kind: Twice, Node: 1, To: 2})
	does(t, w, api.OK, Step{Kind: Forward, Node: 1, To: 2})
	if got := w.Net().Waiting(1, 2); len(got) != 6 || !reflect.DeepEqual(got[0], first[0]) || !reflect.DeepEqual(got[1], first[0]) {
		t.Errorf("%+v", got)
	}
	does(t, w, api.OK, Step{Kind: Lose, Node: 1, To: 2})
	does(t, w, api.OK, Step{Kind: Deliver, Node: 1, To: 2})
	if w.Node(2).State(0).Vote != 1 || len(w.Net().Waiting(2, 1)) != 1 {
		t.Error("the vote")
	}
	does(t, w, api.OK, Step{Kind: Deliver, Node: 2, To: 1})
	if got := of(w.History(), Led); len(got) != 1 || !reflect.DeepEqual(got[0], Tale{Kind: Led, Node: 1, Group: 0, Term: 1}) {
		t.Errorf("%+v", got)
	}
	does(t, w, api.OK, Step{Kind: Crash, Node: 3})
	n := len(w.Net().Waiting(1, 3))
	does(t, w, api.OK, Step{Kind: Deliver, Node: 1, To: 3})
	if len(w.Net().Waiting(1, 3)) != n-1 || len(w.Net().Waiting(3, 1)) != 0 {
		t.Error("a letter to a node that is not up is gone")
	}
	w.Net().Take(2)
	if len(w.Net().Waiting(1, 2)) == 0 {
		t.Error("the net that is told is a copy")
	}
}

func TestTickDraws(t *testing.T) { // P29.2
	w := newWorld(t, 2, 0)
	for range 10 {
		does(t, w, api.OK, Step{Kind: Tick, Node: 1, Num: 7})
	}
	for range 16 {
		does(t, w, api.OK, Step{Kind: Tick, Node: 1, Num: 0})
	}
	if w.Node(1).State(0).Term != 1 {
		t.Error("waits 17")
	}
	does(t, w, api.OK, Step{Kind: Tick, Node: 1})
	if w.Node(1).State(0).Term != 2 {
		t.Error("waits 17")
	}
}

func TestRounds(t *testing.T) { // P29.2: a round
	w, v := newWorld(t, 3, 0), newWorld(t, 3, 0)
	does(t, w, api.OK, Step{Kind: Call, Node: 2, Client: 1, Acts: []api.Act{add("k", 5)}})
	does(t, v, api.OK, Step{Kind: Call, Node: 2, Client: 1, Acts: []api.Act{add("k", 5)}})
	for range 60 {
		calm(t, w, 1)
		many := [6][6]int{}
		for to := 1; to <= 5; to++ {
			for from := 1; from <= 3; from++ {
				many[from][to] = len(v.Net().Waiting(from, to))
			}
		}
		for to := 1; to <= 5; to++ {
			for from := 1; from <= 3; from++ {
				for range many[from][to] {
					does(t, v, api.OK, Step{Kind: Deliver, Node: from, To: to})
				}
			}
		}
		for n := 1; n <= 3; n++ {
			does(t, v, api.OK, Step{Kind: Tick, Node: n, Num: 2 * (n - 1)})
		}
		for n := 1; n <= 3; n++ {
			for g := range 5 {
				if a, b := w.Node(n).State(g), v.Node(n).State(g); a != b {
					t.Fatalf("%+v, %+v", a, b)
				}
			}
		}
		if w.Net().Many() != v.Net().Many() {
			t.Fatal("other letters")
		}
	}
	if len(of(w.History(), Replied)) != 1 {
		t.Error("not replied")
	}
}

func TestCrashAndStart(t *testing.T) { // P29.2, P29.3
	w := newWorld(t, 1, 0)
	calm(t, w, 20)
	for i := range 3 {
		does(t, w, api.OK, Step{Kind: Call, Node: 1, Client: 1, Acts: []api.Act{add("k", i)}})
	}
	does(t, w, api.OK, Step{Kind: Crash, Node: 1, Num: 3})
	if w.Node(1) != nil || w.Disk(1) == nil {
		t.Error("it is not up")
	}
	does(t, w, api.OK, Step{Kind: Start, Node: 1})
	n := len(w.History())
	does(t, w, api.OK, Step{Kind: Crash, Node: 1})
	calm(t, w, 0)
	if w.Node(1) == nil || w.Node(1).State(0).Term != 1 || w.Node(1).State(0).Role != api.RoleFollower {
		t.Error("started")
	}
	if got := w.History()[n:]; len(got) != 2 || got[0].Kind != Owned || got[1].Kind != Turned {
		t.Errorf("told anew: %+v", got)
	}
	calm(t, w, 20)
	if l := w.Node(1).Machine(1).Tract().Rows(api.Span{}); !slices.Equal(l, []api.Row{{Key: "k", Value: "3"}}) {
		t.Errorf("%v", l)
	}
	if l := of(w.History(), Led); len(l) != 10 || l[9].Term != 2 {
		t.Errorf("%+v", l)
	}
}

func TestHandoffTales(t *testing.T) { // P29.3
	w := newWorld(t, 1, 0)
	calm(t, w, 20)
	does(t, w, api.OK, Step{Kind: Handoff, Node: 1, Group: 2, Span: api.Span{Lo: "m"}})
	n := len(w.History())
	calm(t, w, 20)
	open := func(lo, hi string, epoch int) api.Stretch {
		return api.Stretch{Span: api.Span{Lo: lo, Hi: hi}, Epoch: epoch, State: api.StretchOpen}
	}
	l := w.History()[n:]
	if got := of(l, Owned); len(got) != 2 || got[0].Group != 1 || got[0].Stretch != open("", "m", 1) || got[1].Group != 2 || got[1].Stretch != open("m", "", 2) {
		t.Errorf("%+v", got)
	}
	if got := of(l, Turned); len(got) != 1 || got[0].Node != 1 || got[0].Shares.Epoch != 2 {
		t.Errorf("%+v", got)
	}
}

func TestFullDisk(t *testing.T) { // P29.3
	buried := 0
	for size := 500; size < 900; size += 20 {
		w := newWorld(t, 1, size)
		calm(t, w, 20)
		for i := 0; i < 40 && w.Node(1) != nil; i++ {
			was := len(w.History())
			errs := w.Do(Step{Kind: Call, Node: 1, Client: 1, Acts: []api.Act{add("k", i)}})
			if w.Node(1) != nil {
				continue
			}
			buried++
			for _, x := range w.History()[was:] {
				if x.Kind != Called || errs[0] != api.OK {
					t.Errorf("%+v", x)
				}
			}
			if w.Disk(1).Waits() != 0 {
				t.Error("crashed, of nothing kept")
			}
			does(t, w, api.ErrNone, Step{Kind: Tick, Node: 1})
		}
		serializable(t, w.History())
		calm(t, w, 30)
		serializable(t, w.History())
	}
	if buried == 0 {
		t.Error("never halted")
	}
}

func TestNone(t *testing.T) { // R5
	for _, w := range []*World{nil, {}} {
		if errs := w.Do(Step{}, Step{Kind: Calm}); !slices.Equal(errs, []api.Errno{api.ErrNil, api.ErrNil}) {
			t.Errorf("%v", errs)
		}
		if len(w.History()) > 0 || w.Node(1) != nil || w.Disk(1) != nil || w.Net() != nil || len(w.Open()) > 0 {
			t.Error("a world that is none")
		}
	}
}

func TestMemory(t *testing.T) { // R3
	w := newWorld(t, 2, 0)
	acts := []api.Act{add("k", 5)}
	does(t, w, api.OK, Step{Kind: Call, Node: 1, Client: 8, Acts: acts})
	acts[0].Num = 7
	w.Open()[0].Num = 9
	if of(w.History(), Called)[0].Acts[0].Num != 5 || w.Open()[0].Num != 1 {
		t.Error("memory is shared")
	}
	does(t, w, api.OK, Step{Kind: Crash, Node: 1})
	for to := 1; to <= 5; to++ {
		for w.Do(Step{Kind: Lose, Node: 1, To: to})[0] == api.OK {
		}
	}
	does(t, w, api.OK, Step{Kind: Again, Node: 2, Client: 8})
	calm(t, w, 100)
	if l := w.Node(1).Machine(1).Tract().Rows(api.Span{}); !slices.Equal(l, []api.Row{{Key: "k", Value: "5"}}) {
		t.Errorf("%v", l)
	}
	seats := all(1)
	v, _ := New(Setting{Nodes: 1, First: 1, Seats: seats})
	clear(seats)
	does(t, v, api.OK, Step{Kind: Crash, Node: 1})
	does(t, v, api.OK, Step{Kind: Start, Node: 1})
	does(t, v, api.ErrLeader, Step{Kind: Handoff, Node: 1, Group: 4})
}

func TestACallThatHasAnError(t *testing.T) { // P29.2: nothing has happened
	w := newWorld(t, 2, 0)
	for range 20 {
		does(t, w, api.OK, Step{Kind: Call, Node: 1, Client: 1, Acts: []api.Act{get("k")}})
	}
	was := len(w.History())
	does(t, w, api.ErrFull, Step{Kind: Call, Node: 1, Client: 1, Acts: []api.Act{put("k", "x")}})
	if len(w.Open()) != 20 || len(w.History()) != was {
		t.Error("something has happened")
	}
	does(t, w, api.OK, Step{Kind: Call, Node: 2, Client: 1, Acts: []api.Act{get("m")}})
	if l := w.Open(); len(l) != 21 || l[20] != (api.Name{Client: 1, Num: 21}) {
		t.Errorf("%v", l)
	}
	does(t, w, api.ErrThere, Step{Kind: Again, Node: 2, Client: 1})
	calm(t, w, 2000)
	if len(w.Open()) > 0 {
		t.Errorf("%v", w.Open())
	}
	if got := of(w.History(), Called); len(got) != 21 || got[20].Acts[0].Key != "m" {
		t.Errorf("%+v", got)
	}
}

func TestWhatACrashKeeps(t *testing.T) { // P29.2, P29.3
	w := newWorld(t, 1, 700)
	w.Disk(1).Append("other", []byte("abc"))
	does(t, w, api.OK, Step{Kind: Crash, Node: 1, Num: 2})
	if b, _ := w.Disk(1).Read("other"); string(b) != "ab" {
		t.Errorf("%q", b)
	}
	does(t, w, api.OK, Step{Kind: Start, Node: 1})
	w.Disk(1).Append("other", []byte("xyz"))
	for range 100 {
		w.Do(Step{Kind: Tick, Node: 1}, Step{Kind: Call, Node: 1, Client: 1, Acts: []api.Act{add("k", 1)}})
	}
	if b, _ := w.Disk(1).Read("other"); string(b) != "ab" || w.Node(1) != nil {
		t.Errorf("of nothing kept: %q", b)
	}
}

func TestToldOnce(t *testing.T) { // P29.3
	w, _ := New(Setting{Nodes: 1, First: 4, Seats: all(1)})
	if got := of(w.History(), Owned); len(got) != 1 || got[0].Group != 4 {
		t.Errorf("%+v", got)
	}
	for i := range 40 {
		does(t, w, api.OK, Step{Kind: Tick, Node: 1})
		if i > 12 {
			does(t, w, api.OK, Step{Kind: Call, Node: 1, Client: 1, Acts: []api.Act{add("k", 1)}})
		}
	}
	l := w.History()
	if len(of(l, Owned)) != 1 || len(of(l, Turned)) != 1 || len(of(l, Led)) != 5 {
		t.Errorf("%+v", of(l, Owned))
	}
	does(t, w, api.OK, Step{Kind: Handoff, Node: 1, Group: 1})
	for range 10 {
		does(t, w, api.OK, Step{Kind: Tick, Node: 1})
	}
	l = w.History()
	if got := of(l, Owned); len(got) != 2 || got[1].Group != 1 || got[1].Stretch.Epoch != 2 || len(of(l, Turned)) != 2 {
		t.Errorf("%+v", got)
	}
	does(t, w, api.OK, Step{Kind: Handoff, Node: 1, Group: 4})
	for range 10 {
		does(t, w, api.OK, Step{Kind: Tick, Node: 1})
	}
	l = w.History()
	if got := of(l, Owned); len(got) != 3 || got[2].Group != 4 || got[2].Stretch.Epoch != 3 || len(of(l, Turned)) != 3 {
		t.Errorf("%+v", got)
	}
}

func TestDraws(t *testing.T) { // P29.2: a round's draws are 2 (Node - 1)
	w := newWorld(t, 3, 0)
	for range 60 {
		calm(t, w, 1)
		for a := 1; a <= 3; a++ {
			for b := 1; b <= 3; b++ {
				for w.Do(Step{Kind: Lose, Node: a, To: b})[0] == api.OK {
				}
			}
		}
	}
	for n, want := range []int{6, 5, 4} { // at 10, then each 10, 12, 14
		if got := w.Node(n + 1).State(0).Term; got != want {
			t.Errorf("%d: term %d, not %d", n+1, got, want)
		}
	}
}

func TestManyRounds(t *testing.T) { // P29.2
	w := newWorld(t, 1, 0)
	calm(t, w, 2000)
	for n := range 12 {
		v, u := newWorld(t, 1, 0), newWorld(t, 1, 0)
		calm(t, v, n)
		for range n {
			does(t, u, api.OK, Step{Kind: Tick, Node: 1})
		}
		if v.Node(1).State(0) != u.Node(1).State(0) {
			t.Errorf("%d rounds", n)
		}
	}
}

func TestNumbers(t *testing.T) { // the kinds' numbers
	if !slices.Equal([]StepKind{Call, Again, Handoff, Change, Compact, Deliver, Lose, Twice, Forward, Tick, Crash, Start, Calm}, []StepKind{1, 2, 3, 4, 5, 6, 7, 8, 9, 10, 11, 12, 13}) {
		t.Error("kinds of steps")
	}
	if !slices.Equal([]TaleKind{Called, Replied, Led, Applied, Owned, Decided, Turned}, []TaleKind{1, 2, 3, 4, 5, 6, 7}) {
		t.Error("kinds of tales")
	}
}

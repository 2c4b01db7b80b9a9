package clerk_test

import (
	"math"
	"reflect"
	"slices"
	"testing"

	"watershed/api"
	. "watershed/clerk"
	"watershed/order"
	"watershed/registry"
	"watershed/shares"
)

func name(client, num int) api.Name { return api.Name{Client: client, Num: num} }

func get(key string) api.Act          { return api.Act{Kind: api.ActGet, Key: key} }
func put(key, value string) api.Act   { return api.Act{Kind: api.ActPut, Key: key, Value: value} }
func add(key string, num int) api.Act { return api.Act{Kind: api.ActAdd, Key: key, Num: num} }
func is(key, value string) api.Read   { return api.Read{Key: key, Is: true, Value: value} }

// three is shares of a to c at 2 under 2, of x on at 1 under 3, of all others at 1 under 1.
func three() api.Shares {
	s, _ := shares.Turn(shares.First(1), api.Span{Lo: "a", Hi: "c"}, 2)
	s, _ = shares.Turn(s, api.Span{Lo: "x"}, 3)
	s.List[len(s.List)-1].Group = 1
	return s
}

func view(s api.Shares) []byte { return registry.New(s).View() }

func look(n api.Name) order.Order { return order.Order{Kind: order.Look, Name: n} }

func prepare(n api.Name, epoch int, acts ...api.Act) order.Order {
	return order.Order{Kind: order.Prepare, Name: n, Epoch: epoch, Acts: acts}
}

func decide(n api.Name, commit bool, reads ...api.Read) order.Order {
	return order.Order{Kind: order.Decide, Name: n, Commit: commit, Reads: reads}
}

func finish(n api.Name, commit bool) order.Order {
	return order.Order{Kind: order.Finish, Name: n, Commit: commit}
}

func asked(t *testing.T, what string, got []Ask, want ...Ask) {
	t.Helper()
	if len(got) != len(want) {
		t.Fatalf("%s: %+v, not %+v", what, got, want)
	}
	for i := range got {
		if len(got[i].Order.Reads) == 0 {
			got[i].Order.Reads = nil
		}
		if len(got[i].Order.Acts) == 0 {
			got[i].Order.Acts = nil
		}
		if !reflect.DeepEqual(got[i], want[i]) || !order.Right(got[i].Order) {
			t.Fatalf("%s: %+v, not %+v", what, got[i], want[i])
		}
	}
}

func replied(t *testing.T, what string, got []Reply, want ...Reply) {
	t.Helper()
	for i := range got {
		if len(got[i].Reads) == 0 {
			got[i].Reads = nil
		}
	}
	if len(got) != len(want) || len(got) > 0 && !reflect.DeepEqual(got, want) {
		t.Fatalf("%s: %+v, not %+v", what, got, want)
	}
}

// test is a clerk, and what it is asked.
type test struct {
	t *testing.T
	*Clerk
}

func newTest(t *testing.T, first int) test { return test{t, New(first)} }

// gives answers, and expects asks alone.
func (x test) gives(what string, tag int, a order.Answer, want ...Ask) {
	x.t.Helper()
	asks, replies := x.Answer(tag, a)
	asked(x.t, what, asks, want...)
	replied(x.t, what, replies)
}

func (x test) calls(n api.Name, acts ...api.Act) {
	x.t.Helper()
	if _, err := x.Call(n, acts...); err != api.OK {
		x.t.Fatalf("call: %d", err)
	}
}

// routed is a clerk at tag 102 that knows the shares, whose call 2.5 prepares: in 1 under 1 (103), 1 under 3 (104), 2 under 2 (105).
func routed(t *testing.T) test {
	t.Helper()
	x := newTest(t, 100)
	x.calls(name(2, 5), add("x", 1), get("b"), put("m", "v"), get("m"), get("x"), get("a"))
	x.gives("look", 101, order.Answer{}, Ask{102, 0, order.Order{Kind: order.Ask}})
	x.gives("ask", 102, order.Answer{Bytes: view(three())},
		Ask{103, 1, prepare(name(2, 5), 1, put("m", "v"), get("m"))},
		Ask{104, 1, prepare(name(2, 5), 3, add("x", 1), get("x"))},
		Ask{105, 2, prepare(name(2, 5), 2, get("b"), get("a"))})
	return x
}

// held is routed, all its parts holding: it decides (106).
func held(t *testing.T) test {
	t.Helper()
	x := routed(t)
	x.gives("holds", 104, order.Answer{Reads: []api.Read{is("x", "7"), is("x", "8")}})
	x.gives("holds", 103, order.Answer{Reads: []api.Read{is("m", "v")}})
	x.gives("all hold", 105, order.Answer{Reads: []api.Read{{Key: "b"}, is("a", "1")}},
		Ask{106, 0, decide(name(2, 5), true, is("x", "7"), api.Read{Key: "b"}, is("m", "v"), is("x", "8"), is("a", "1"))})
	return x
}

func TestNew(t *testing.T) { // P26.1
	for first, tag := range map[int]int{0: 1, 7: 8, -3: 1, math.MinInt: 1, 1 << 61: 1<<61 + 1, math.MaxInt: 1<<61 + 1} {
		c := New(first)
		if s, knows := c.Shares(); knows || len(s.List) > 0 || len(c.Names()) > 0 || len(c.Tick()) > 0 {
			t.Error("new")
		}
		l, err := c.Call(name(1, 1), get("k"))
		if asked(t, "call", l, Ask{tag, 0, look(name(1, 1))}); err != api.OK {
			t.Errorf("%d", err)
		}
	}
}

func TestCall(t *testing.T) { // P26.2
	x := newTest(t, 0)
	x.calls(name(1, 1), get("k"))
	for i, c := range []struct {
		n    api.Name
		acts []api.Act
		err  api.Errno
	}{{api.Name{}, []api.Act{get("k")}, api.ErrArg}, {name(1, 1), nil, api.ErrArg}, {name(1, 2), []api.Act{get("K")}, api.ErrArg}, {name(1, 1), []api.Act{get("k")}, api.ErrThere}} {
		if l, err := x.Call(c.n, c.acts...); len(l) > 0 || err != c.err {
			t.Errorf("%d: %d", i, err)
		}
	}
	x.Sweep(1, name(7, 7))
	for i := 2; i <= 19; i++ {
		x.calls(name(1, i), get("k"))
	}
	if l, err := x.Call(name(1, 20), get("k")); len(l) > 0 || err != api.ErrFull {
		t.Errorf("%d", err)
	}
	if _, err := x.Call(name(1, 5), get("k")); err != api.ErrThere {
		t.Errorf("%d", err)
	}
	if l := x.Names(); len(l) != 19 || l[0] != name(1, 1) || l[18] != name(1, 19) {
		t.Errorf("%v", l)
	}
}

func TestLooks(t *testing.T) { // P26.4, 1
	x := newTest(t, 0)
	x.calls(name(1, 1), get("k"))
	x.calls(name(1, 2), get("k"))
	x.gives("another tag", 9, order.Answer{Is: true})
	x.gives("an error", 1, order.Answer{Err: api.ErrArg, Is: true})
	asks, replies := x.Answer(1, order.Answer{Name: name(5, 5), Is: true, Commit: true, Reads: []api.Read{is("k", "9")}})
	asked(t, "decided already", asks)
	replied(t, "decided already", replies, Reply{name(1, 1), true, []api.Read{is("k", "9")}})
	if l := x.Names(); !slices.Equal(l, []api.Name{name(1, 2)}) {
		t.Errorf("%v", l)
	}
	x.gives("gone", 1, order.Answer{Is: true})
	_, replies = x.Answer(2, order.Answer{Is: true})
	replied(t, "decided away", replies, Reply{Name: name(1, 2)})
}

func TestRoutes(t *testing.T) { // P26.4, 1 to 3
	x := newTest(t, 0)
	x.calls(name(1, 1), get("b"))
	x.gives("look", 1, order.Answer{}, Ask{2, 0, order.Order{Kind: order.Ask}})
	x.gives("late", 1, order.Answer{})
	x.gives("an error", 2, order.Answer{Err: api.ErrArg, Bytes: view(three())})
	x.gives("no view", 2, order.Answer{Bytes: view(three())[1:]})
	if _, knows := x.Shares(); knows {
		t.Error("knows no shares")
	}
	x.gives("a view", 2, order.Answer{Bytes: view(three())}, Ask{3, 2, prepare(name(1, 1), 2, get("b"))})
	if s, knows := x.Shares(); !knows || !reflect.DeepEqual(s, three()) {
		t.Errorf("%v", s)
	}
	x.calls(name(1, 2), get("z"))
	x.gives("shares are known", 4, order.Answer{}, Ask{5, 1, prepare(name(1, 2), 3, get("z"))})
	s, _ := x.Shares()
	s.List[0].Group = 9
	if s, _ := x.Shares(); s.List[0].Group == 9 {
		t.Error("memory is shared")
	}
}

func TestPrepares(t *testing.T) { // P26.4, 3 to 5, 7
	x := held(t)
	for _, tag := range []int{101, 102, 103, 104, 105} {
		x.gives("idle", tag, order.Answer{Err: api.ErrEpoch})
	}
	x.gives("an error", 106, order.Answer{Err: api.ErrArg})
	reads := []api.Read{is("x", "7")}
	asks, replies := x.Answer(106, order.Answer{Name: name(2, 5), Is: true, Commit: true, Reads: reads})
	asked(t, "decided", asks, Ask{107, 1, finish(name(2, 5), true)}, Ask{108, 1, finish(name(2, 5), true)}, Ask{109, 2, finish(name(2, 5), true)})
	replied(t, "decided", replies, Reply{name(2, 5), true, reads})
	x.gives("no second reply", 106, order.Answer{Is: true, Commit: true})
	x.gives("finished", 108, order.Answer{})
	x.gives("frozen", 107, order.Answer{Err: api.ErrFrozen})
	x.gives("finished, with an error", 107, order.Answer{Err: api.ErrArg})
	if len(x.Names()) != 1 {
		t.Error("one is not finished yet")
	}
	x.gives("finished", 109, order.Answer{})
	if len(x.Names()) != 0 {
		t.Error("all are finished")
	}
}

func TestDecidedAway(t *testing.T) { // P26.4, 5
	x := held(t)
	asks, replies := x.Answer(106, order.Answer{Name: name(2, 5), Is: true})
	asked(t, "decided away", asks, Ask{107, 1, finish(name(2, 5), false)}, Ask{108, 1, finish(name(2, 5), false)}, Ask{109, 2, finish(name(2, 5), false)})
	replied(t, "decided away", replies, Reply{Name: name(2, 5)})
}

func TestFails(t *testing.T) { // P26.4, 4
	for _, err := range []api.Errno{api.ErrEpoch, api.ErrStale, api.ErrFull, api.ErrArg, 99} {
		x := routed(t)
		x.gives("holds", 103, order.Answer{Reads: []api.Read{is("m", "v")}})
		x.gives("fails", 105, order.Answer{Err: err}, Ask{106, 0, decide(name(2, 5), false)})
		if _, knows := x.Shares(); knows != (err != api.ErrEpoch) {
			t.Errorf("error %d: knows %v", err, knows)
		}
		x.gives("idle", 104, order.Answer{})
		asks, _ := x.Answer(106, order.Answer{Is: true})
		if len(asks) != 3 {
			t.Errorf("%v", asks)
		}
	}
}

func TestBusy(t *testing.T) { // P26.4, 4, 6
	x := routed(t)
	for _, n := range []api.Name{name(1, 5), name(2, 5), name(8, 4), {}, name(9, 9), name(3, api.MaxNum+1)} {
		x.gives("an older one", 104, order.Answer{Err: api.ErrBusy, Name: n})
	}
	young := name(3, 5)
	x.gives("a younger one", 104, order.Answer{Err: api.ErrBusy, Name: young}, Ask{106, 0, decide(young, false)})
	x.gives("an error", 106, order.Answer{Err: api.ErrArg})
	x.gives("decided", 106, order.Answer{Name: young, Is: true, Commit: true}, Ask{107, 1, finish(young, true)})
	again := Ask{108, 1, prepare(name(2, 5), 3, add("x", 1), get("x"))}
	x.gives("let go", 107, order.Answer{Err: api.ErrFrozen}, again)
	x.gives("busy again", 108, order.Answer{Err: api.ErrBusy, Name: young}, Ask{109, 0, decide(young, false)})
	x.gives("decided away", 109, order.Answer{Name: young, Is: true}, Ask{110, 1, finish(young, false)})
	again.Tag = 111
	x.gives("let go", 110, order.Answer{}, again)
	x.gives("holds", 111, order.Answer{})
	x.gives("busy", 103, order.Answer{Err: api.ErrBusy, Name: young}, Ask{112, 0, decide(young, false)})
	x.gives("fails", 105, order.Answer{Err: api.ErrEpoch}, Ask{113, 0, decide(name(2, 5), false)})
	x.gives("idle", 112, order.Answer{Is: true})
}

func ticks(t *testing.T, c *Clerk, n int, want ...Ask) {
	t.Helper()
	var got []Ask
	for range n {
		got = append(got, c.Tick()...)
	}
	asked(t, "ticks", got, want...)
}

func TestTick(t *testing.T) { // P26.3
	x := routed(t)
	x.calls(name(1, 1), get("k"))
	x.Tick()
	x.Sweep(3, name(4, 4))
	part := func(tag int) Ask {
		return []Ask{{103, 1, prepare(name(2, 5), 1, put("m", "v"), get("m"))}, {104, 1, prepare(name(2, 5), 3, add("x", 1), get("x"))}, {105, 2, prepare(name(2, 5), 2, get("b"), get("a"))}}[tag-103]
	}
	own, sweep := Ask{106, 0, look(name(1, 1))}, Ask{107, 0, decide(name(4, 4), false)}
	ticks(t, x.Clerk, 3)
	x.gives("busy: from now on", 104, order.Answer{Err: api.ErrBusy, Name: name(1, 1)})
	ticks(t, x.Clerk, 1, part(103), part(105), own)
	ticks(t, x.Clerk, 1, sweep)
	ticks(t, x.Clerk, 2)
	ticks(t, x.Clerk, 1, part(104))
	x.gives("holds", 103, order.Answer{})
	ticks(t, x.Clerk, 1, part(105), own)
	ticks(t, x.Clerk, 4, sweep, part(104))
	h := held(t)
	ticks(t, h.Clerk, 5, Ask{106, 0, decide(name(2, 5), true, is("x", "7"), api.Read{Key: "b"}, is("m", "v"), is("x", "8"), is("a", "1"))})
	h.Answer(106, order.Answer{Commit: true})
	h.Tick()
	h.gives("frozen: from now on", 107, order.Answer{Err: api.ErrFrozen})
	ticks(t, h.Clerk, 4, Ask{108, 1, finish(name(2, 5), true)}, Ask{109, 2, finish(name(2, 5), true)})
	ticks(t, h.Clerk, 1, Ask{107, 1, finish(name(2, 5), true)})
}

func TestSweep(t *testing.T) { // P26.2, P26.4, 8
	x := newTest(t, 0)
	x.calls(name(1, 1), get("k"))
	for _, group := range []int{0, 5, -1} {
		asked(t, "no group", x.Sweep(group, name(2, 2)))
	}
	asked(t, "sweep", x.Sweep(2, name(3, 3), name(1, 1), api.Name{}, name(2, 2), name(3, 3)), Ask{2, 0, decide(name(3, 3), false)}, Ask{3, 0, decide(name(2, 2), false)})
	asked(t, "another group", x.Sweep(1, name(3, 3)), Ask{4, 0, decide(name(3, 3), false)})
	asked(t, "there already", x.Sweep(2, name(3, 3)))
	if l := x.Names(); !slices.Equal(l, []api.Name{name(1, 1)}) {
		t.Errorf("%v", l)
	}
	x.calls(name(2, 2), get("k"))
	x.gives("an error", 2, order.Answer{Err: api.ErrArg})
	x.gives("decided", 2, order.Answer{Name: name(3, 3), Is: true, Commit: true}, Ask{6, 2, finish(name(3, 3), true)})
	x.gives("frozen", 6, order.Answer{Err: api.ErrFrozen})
	x.gives("finished", 6, order.Answer{Err: api.ErrArg})
	x.gives("gone", 6, order.Answer{Err: api.ErrFrozen})
	asked(t, "once more", x.Sweep(2, name(3, 3)), Ask{7, 0, decide(name(3, 3), false)})
	var many []api.Name
	for i := range 30 {
		many = append(many, name(4, 1+i))
	}
	if l := x.Sweep(4, many...); len(l) != 15 || l[14].Order.Name != name(4, 15) {
		t.Errorf("%d", len(l))
	}
}

func TestNone(t *testing.T) { // R5
	for _, c := range []*Clerk{nil, {}} {
		l, err := c.Call(api.Name{})
		asks, replies := c.Answer(0, order.Answer{})
		s, knows := c.Shares()
		if len(l) > 0 || err != api.ErrNil || len(c.Sweep(1, name(1, 1))) > 0 || len(c.Tick()) > 0 || len(asks)+len(replies) > 0 || knows || len(s.List) > 0 || len(c.Names()) > 0 {
			t.Error("a clerk that is none")
		}
	}
}

func TestMemory(t *testing.T) { // R3
	c := New(0)
	acts := []api.Act{get("k")}
	c.Call(name(1, 1), acts...)
	acts[0].Key = "x"
	c.Answer(1, order.Answer{})
	l, _ := c.Answer(2, order.Answer{Bytes: view(shares.First(1))})
	l[0].Order.Acts[0].Key = "y"
	ticks(t, c, 5, Ask{3, 1, prepare(name(1, 1), 1, get("k"))})
	reads := []api.Read{is("k", "1")}
	c.Answer(3, order.Answer{Reads: reads})
	reads[0].Value = "2"
	ticks(t, c, 5, Ask{4, 0, decide(name(1, 1), true, is("k", "1"))})
}

func TestReadsAreCopies(t *testing.T) { // R3
	x := routed(t)
	reads := []api.Read{is("m", "v")}
	x.Answer(103, order.Answer{Reads: reads})
	reads[0].Value = "w"
	x.Answer(104, order.Answer{Reads: []api.Read{is("x", "7"), is("x", "8")}})
	l, _ := x.Answer(105, order.Answer{Reads: []api.Read{{Key: "b"}, is("a", "1")}})
	if l[0].Order.Reads[2].Value != "v" {
		t.Error("memory is shared")
	}
	l[0].Order.Reads[2].Value = "w"
	again := x.Tick()
	for range 4 {
		again = x.Tick()
	}
	if again[0].Order.Reads[2].Value != "v" {
		t.Error("memory is shared")
	}
	reads[0].Value = "v"
	_, replies := x.Answer(106, order.Answer{Commit: true, Reads: reads})
	reads[0].Value = "w"
	if replies[0].Reads[0].Value != "v" {
		t.Error("memory is shared")
	}
}

func TestSinceIsNew(t *testing.T) { // to ask an order: Since 0
	x := newTest(t, 0)
	x.calls(name(1, 1), get("k"))
	ticks(t, x.Clerk, 3)
	x.gives("look", 1, order.Answer{}, Ask{2, 0, order.Order{Kind: order.Ask}})
	ticks(t, x.Clerk, 4)
	ticks(t, x.Clerk, 1, Ask{2, 0, order.Order{Kind: order.Ask}})
}

func TestSweepOfTheFirst(t *testing.T) { // P26.4, 8
	x := newTest(t, 0)
	asked(t, "sweep", x.Sweep(1, name(3, 3)), Ask{1, 0, decide(name(3, 3), false)})
	x.gives("decided", 1, order.Answer{Is: true}, Ask{2, 1, finish(name(3, 3), false)})
	x.gives("finished", 2, order.Answer{})
	asked(t, "once more", x.Sweep(4, name(3, 3)), Ask{3, 0, decide(name(3, 3), false)})
}

func TestReadsOfOneKeyTwice(t *testing.T) { // reads of a call
	c := New(0)
	c.Call(name(1, 1), get("a"), get("z"), add("a", 1), put("a", "q"), get("a"))
	c.Answer(1, order.Answer{})
	c.Answer(2, order.Answer{Bytes: view(three())})
	c.Answer(3, order.Answer{Reads: []api.Read{is("z", "0")}})
	l, _ := c.Answer(4, order.Answer{Reads: []api.Read{is("a", "1"), is("a", "1"), is("a", "q")}})
	asked(t, "all hold", l, Ask{5, 0, decide(name(1, 1), true, is("a", "1"), is("z", "0"), is("a", "1"), is("a", "q"))})
}

package calm_test

import (
	"slices"
	"testing"

	"watershed/act"
	"watershed/api"
	. "watershed/calm"
	"watershed/order"
	"watershed/witness"
	"watershed/world"
)

func get(key string) api.Act          { return api.Act{Kind: api.ActGet, Key: key} }
func add(key string, num int) api.Act { return api.Act{Kind: api.ActAdd, Key: key, Num: num} }

func newWorld(t *testing.T, nodes int, seats ...[]int) *world.World {
	t.Helper()
	first := 1
	if len(seats[1]) == 0 {
		first = 2
	}
	w, err := world.New(world.Setting{Nodes: nodes, First: first, Seats: seats})
	if err != api.OK {
		t.Fatalf("error %d", err)
	}
	return w
}

func does(t *testing.T, w *world.World, l ...world.Step) {
	t.Helper()
	for i, err := range w.Do(l...) {
		if err != api.OK {
			t.Fatalf("step %d: %d", i, err)
		}
	}
}

func settles(t *testing.T, w *world.World) int {
	t.Helper()
	rounds, rest := Settle(w, 2000)
	if !rest || !Rest(w) || !Quiet(w, 0, 1, 2, 3, 4) {
		t.Fatalf("restless behind %d rounds", rounds)
	}
	return rounds
}

func TestExample(t *testing.T) { // P31.1, P31.2, example 1
	w := newWorld(t, 2, []int{1, 2}, []int{1, 2})
	if Rest(w) || !slices.Equal(Leads(w), []int{0, 0, 0, 0, 0}) || Quiet(w, 0) || Quiet(w, 1) || !Quiet(w, 2, 3, 4) || Quiet(w, 2, 1) {
		t.Error("nobody leads yet")
	}
	rounds := settles(t, w)
	l := Leads(w)
	if rounds < 10 || rounds > 60 || l[0] == 0 || l[1] == 0 || l[2] != 0 || w.Node(l[0]).State(0).Role != api.RoleLeader {
		t.Errorf("%d rounds, %v", rounds, l)
	}
	if n, rest := Settle(w, 9); n != 0 || !rest {
		t.Errorf("%d, %v", n, rest)
	}
	does(t, w, world.Step{Kind: world.Call, Node: 1, Client: 1, Acts: []api.Act{add("k", 5)}})
	if Rest(w) {
		t.Error("behind a call it does not rest")
	}
	if n, rest := Settle(w, 1); n != 1 || rest {
		t.Errorf("%d, %v", n, rest)
	}
	for _, most := range []int{0, -5} {
		if n, rest := Settle(w, most); n != 0 || rest {
			t.Errorf("%d, %v", n, rest)
		}
	}
	settles(t, w)
	if len(w.Open()) > 0 {
		t.Error("not replied")
	}
}

func TestNone(t *testing.T) { // P31.1, P31.2
	for _, w := range []*world.World{nil, {}} {
		if n, rest := Settle(w, 5); n != 0 || rest || len(Leads(w)) > 0 || Rest(w) || Quiet(w) || Quiet(w, 0) {
			t.Error("of no world")
		}
	}
}

func TestQuiet(t *testing.T) { // P31.1
	w := newWorld(t, 1, []int{1}, []int{1}, []int{1})
	settles(t, w)
	if !Quiet(w) || !Quiet(w, 0, 0, 4) || Quiet(w, 5) || Quiet(w, -1) || Quiet(w, 0, 9) {
		t.Error("quiet")
	}
}

func propose(t *testing.T, w *world.World, group int, x order.Order) {
	t.Helper()
	b, err := order.Put(x)
	if err != api.OK {
		t.Fatalf("error %d", err)
	}
	w.Node(1).Letter(api.Letter{Kind: api.LetterPropose, Group: group, From: 2, To: 1, Term: 1, Bytes: b})
}

func TestHoldsAndHandoffs(t *testing.T) { // P31.1
	w := newWorld(t, 1, []int{1}, []int{1}, []int{1})
	settles(t, w)
	n := api.Name{Client: 1, Num: 1}
	propose(t, w, 1, order.Order{Kind: order.Prepare, Name: n, Epoch: 1, Acts: []api.Act{get("k")}})
	if Quiet(w, 1) || !Quiet(w, 0, 2) || Rest(w) {
		t.Error("a key is held")
	}
	propose(t, w, 1, order.Order{Kind: order.Finish, Name: n})
	if !Quiet(w, 1) || !Rest(w) {
		t.Error("it is let go")
	}
	propose(t, w, 0, order.Order{Kind: order.Begin, Span: api.Span{Lo: "m"}, To: 2})
	if Quiet(w, 0) || !Quiet(w, 1, 2) || Rest(w) {
		t.Error("a handoff is under way")
	}
	settles(t, w)
	if w.Node(1).Machine(0).Registry().Shares().Epoch != 2 {
		t.Error("it is over")
	}
}

func TestChangesAndPlaces(t *testing.T) { // P31.1
	w := newWorld(t, 3, []int{1, 2}, []int{1, 2})
	settles(t, w)
	lead := Leads(w)[1]
	does(t, w, world.Step{Kind: world.Change, Node: lead, Group: 1, Want: []int{3}})
	if Quiet(w, 1) || !Quiet(w, 0) {
		t.Error("a change is under way")
	}
	settles(t, w)
	if Leads(w)[1] != 3 {
		t.Errorf("%v", Leads(w))
	}
	does(t, w, world.Step{Kind: world.Crash, Node: 3})
	if Rest(w) || !Quiet(w, 0) || Quiet(w, 1) || Leads(w)[1] != 0 {
		t.Error("a place is not up")
	}
	settles(t, w)
	other := 3 - Leads(w)[0]
	does(t, w, world.Step{Kind: world.Crash, Node: other})
	if Quiet(w, 0) {
		t.Error("a voter is not up")
	}
	settles(t, w)
	lead = Leads(w)[0]
	w.Node(lead).Letter(api.Letter{Kind: api.LetterPropose, Group: 0, From: 3 - lead, To: lead, Term: 1, Bytes: []byte{1}})
	if Quiet(w, 0) {
		t.Error("what the log has is not committed")
	}
	settles(t, w)
}

func TestFollowersCommit(t *testing.T) { // P31.1: each voter has the Commit of the one that leads
	w := newWorld(t, 2, []int{1, 2}, []int{1, 2})
	settles(t, w)
	lead := Leads(w)[0]
	does(t, w, world.Step{Kind: world.Call, Node: lead, Client: 1, Acts: []api.Act{get("k")}})
	behind := false
	for range 200 {
		n := w.Node(lead)
		for g := range 5 {
			s := n.State(g)
			if s.Role == api.RoleLeader && s.Commit == n.Last(g) && w.Node(3-lead).State(g).Commit < s.Commit {
				if behind = true; Quiet(w, g) {
					t.Fatal("a voter is behind")
				}
			}
		}
		does(t, w, world.Step{Kind: world.Calm, Num: 1})
	}
	if !behind || !Rest(w) {
		t.Error("never behind")
	}
}

func TestTwoLeaders(t *testing.T) { // who leads: that of the greatest term
	w := newWorld(t, 3, []int{1, 2, 3}, []int{1, 2, 3})
	settles(t, w)
	old := Leads(w)[0]
	term := w.Node(old).State(0).Term
	for range 200 {
		for n := 1; n <= 3; n++ {
			if n != old {
				does(t, w, world.Step{Kind: world.Tick, Node: n, Num: 2 * n})
			}
		}
		for a := 1; a <= 3; a++ {
			for b := 1; b <= 3; b++ {
				for a != old && b != old && w.Do(world.Step{Kind: world.Deliver, Node: a, To: b})[0] == api.OK {
				}
				w.Do(world.Step{Kind: world.Lose, Node: a, To: b})
			}
		}
	}
	who := Leads(w)[0]
	if who == old || who == 0 || w.Node(old).State(0).Role != api.RoleLeader || w.Node(who).State(0).Term <= term {
		t.Errorf("%d leads, %d led", who, old)
	}
	settles(t, w)
}

// steps lets the nodes but one go on by themselves, all letters to and from which are lost.
func steps(t *testing.T, w *world.World, but, rounds int) {
	t.Helper()
	for range rounds {
		for n := 1; n <= 3; n++ {
			if n != but {
				does(t, w, world.Step{Kind: world.Tick, Node: n, Num: 2 * n})
			}
		}
		for a := 1; a <= 3; a++ {
			for b := 1; b <= 5; b++ {
				for a != but && b != but && w.Do(world.Step{Kind: world.Deliver, Node: a, To: b})[0] == api.OK {
				}
				for w.Do(world.Step{Kind: world.Lose, Node: a, To: b})[0] == api.OK {
				}
			}
		}
	}
}

func TestGreatestTerm(t *testing.T) { // who leads: that of the greatest term, wherever it stands
	for first := 1; first <= 3; first++ {
		w := newWorld(t, 3, []int{1, 2, 3}, []int{1, 2, 3})
		for range 10 {
			does(t, w, world.Step{Kind: world.Tick, Node: first})
		}
		for range 3 {
			for n := 1; n <= 3; n++ {
				w.Do(world.Step{Kind: world.Deliver, Node: first, To: n}, world.Step{Kind: world.Deliver, Node: n, To: first})
			}
		}
		if Leads(w)[0] != first {
			t.Fatalf("%d leads not", first)
		}
		steps(t, w, first, 60)
		if who := Leads(w)[0]; who == first || who == 0 || w.Node(first).State(0).Role != api.RoleLeader {
			t.Errorf("%d leads, %d led", who, first)
		}
	}
}

func TestWantedOne(t *testing.T) { // a group rests not, as long as anybody is wanted
	w := newWorld(t, 3, []int{1, 2}, []int{1, 2})
	settles(t, w)
	does(t, w, world.Step{Kind: world.Crash, Node: 3})
	lead := Leads(w)[1]
	does(t, w, world.Step{Kind: world.Change, Node: lead, Group: 1, Want: []int{1, 2, 3}})
	steps(t, w, 3, 20)
	x := w.Node(lead)
	if x.State(1).Commit != x.Last(1) || w.Node(3-lead).State(1).Commit != x.Last(1) || len(x.Config(1).Learners) != 1 || Quiet(w, 1) {
		t.Errorf("%+v", x.Config(1))
	}
	settles(t, w)
}

func TestFivePlaces(t *testing.T) { // the places are up to 5
	w := newWorld(t, 5, []int{5}, nil, []int{4})
	settles(t, w)
	if l := Leads(w); !slices.Equal(l, []int{5, 0, 4, 0, 0}) {
		t.Errorf("%v", l)
	}
	does(t, w, world.Step{Kind: world.Crash, Node: 5})
	if Rest(w) || Quiet(w, 0) || Leads(w)[0] != 0 {
		t.Error("a place is not up")
	}
}

func TestRoundByRound(t *testing.T) { // P31.2
	w, v := newWorld(t, 3, []int{1, 2, 3}, []int{1, 2, 3}), newWorld(t, 3, []int{1, 2, 3}, []int{1, 2, 3})
	want := 0
	for ; !Rest(v); want++ {
		does(t, v, world.Step{Kind: world.Calm, Num: 1})
	}
	if n, rest := Settle(w, want); n != want || !rest || len(w.History()) != len(v.History()) {
		t.Errorf("%d rounds, not %d", n, want)
	}
	u := newWorld(t, 3, []int{1, 2, 3}, []int{1, 2, 3})
	if n, rest := Settle(u, want-1); n != want-1 || rest {
		t.Errorf("%d rounds, %v", n, rest)
	}
}

// dice is numbers that are the same each time.
type dice struct{ seed uint32 }

func (d *dice) next(n int) int {
	d.seed = d.seed*1664525 + 1013904223
	return int(d.seed>>10) % n
}

func (d *dice) step(nodes int) world.Step {
	keys := []string{"a", "c", "m", "x"}
	x := world.Step{Node: 1 + d.next(nodes), To: 1 + d.next(nodes), Client: 1 + d.next(3), Group: d.next(5), Num: d.next(25)}
	x.Kind = []world.StepKind{world.Call, world.Call, world.Call, world.Again, world.Handoff, world.Handoff, world.Change, world.Compact, world.Deliver, world.Deliver, world.Lose, world.Twice, world.Forward, world.Tick, world.Tick, world.Crash, world.Start, world.Calm, world.Calm}[d.next(19)]
	for range 1 + d.next(3) {
		k := keys[d.next(4)]
		x.Acts = append(x.Acts, []api.Act{get(k), add(k, 1), {Kind: api.ActPut, Key: k, Value: "v"}}[d.next(3)])
	}
	if !act.Right(x.Acts...) {
		panic("acts")
	}
	x.Span = []api.Span{{}, {Lo: "b"}, {Hi: "c"}, {Lo: "c", Hi: "n"}}[d.next(4)]
	for n := 1; n <= nodes; n++ {
		if d.next(3) > 0 {
			x.Want = append(x.Want, n)
		}
	}
	return x
}

func TestComesToRest(t *testing.T) { // P31.3
	for seed := range uint32(150) {
		d := &dice{seed*7919 + 11}
		nodes := 1 + int(seed%3)
		all := []int{1, 2, 3}[:nodes]
		w := newWorld(t, nodes, all, all, all, all, all)
		if seed%2 == 0 {
			w.Do(world.Step{Kind: world.Calm, Num: 40})
		}
		stayed := map[int]int{}
		for i := range 40 {
			x := d.step(nodes)
			w.Do(x)
			if x.Kind == world.Crash {
				stayed[x.Node] = i
			}
		}
		settles(t, w)
		if len(stayed) == 0 && len(w.Open()) > 0 {
			t.Fatalf("seed %d: open: %v", seed, w.Open())
		}
		for range 40 {
			does(t, w, world.Step{Kind: world.Calm, Num: 1})
			if !Rest(w) {
				t.Fatalf("seed %d: it does not stay at rest", seed)
			}
		}
		l, ok := witness.From(w.History()...)
		if _, err := witness.Fit(l...); !ok || err != api.OK {
			t.Fatalf("seed %d: %v, %d", seed, ok, err)
		}
	}
}

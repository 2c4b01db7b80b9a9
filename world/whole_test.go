package world_test

import (
	"fmt"
	"slices"
	"testing"

	"watershed/act"
	"watershed/api"
	"watershed/shares"
	"watershed/span"
	. "watershed/world"
)

// dice is numbers that are the same each time.
type dice struct{ seed uint32 }

func (d *dice) next(n int) int {
	d.seed = d.seed*1664525 + 1013904223
	return int(d.seed>>10) % n
}

var keys = []string{"a", "b", "c", "m", "x"}

func (d *dice) acts() []api.Act {
	var l []api.Act
	for range 1 + d.next(3) {
		k := keys[d.next(len(keys))]
		l = append(l, []api.Act{get(k), put(k, fmt.Sprint(d.next(9))), add(k, 1+d.next(9))}[d.next(3)])
	}
	return l
}

func (d *dice) span() api.Span {
	return []api.Span{{}, {Lo: "b"}, {Lo: "b", Hi: "m"}, {Hi: "c"}, {Lo: "m"}, {Lo: "c", Hi: "x"}}[d.next(6)]
}

func (d *dice) step(nodes int) Step {
	x := Step{Node: 1 + d.next(nodes), To: 1 + d.next(nodes), Client: 1 + d.next(4), Group: 1 + d.next(4), Num: d.next(30)}
	switch k := d.next(100); {
	case k < 12:
		x.Kind, x.Acts = Call, d.acts()
	case k < 14:
		x.Kind = Again
	case k < 19:
		x.Kind, x.Span = Handoff, d.span()
	case k < 23:
		x.Kind, x.Group = Change, d.next(5)
		for n := 1; n <= nodes; n++ {
			if d.next(3) > 0 {
				x.Want = append(x.Want, n)
			}
		}
	case k < 25:
		x.Kind, x.Group = Compact, d.next(5)
	case k < 55:
		x.Kind = Deliver
	case k < 58:
		x.Kind = Lose
	case k < 60:
		x.Kind = Twice
	case k < 63:
		x.Kind = Forward
	case k < 80:
		x.Kind = Tick
	case k < 83:
		x.Kind = Crash
	case k < 90:
		x.Kind = Start
	default:
		x.Kind, x.Num = Calm, d.next(12)
	}
	return x
}

// committed is the decided transactions, by their least index.
func committed(t *testing.T, l []Tale) []Tale {
	t.Helper()
	least := map[api.Name]Tale{}
	for _, x := range of(l, Decided) {
		y, is := least[x.Name]
		if is && (x.Commit != y.Commit || !slices.Equal(x.Reads, y.Reads)) {
			t.Fatalf("%+v and %+v", x, y)
		}
		if !is || x.Index < y.Index {
			least[x.Name] = x
		}
	}
	var out []Tale
	for _, x := range least {
		if x.Commit {
			out = append(out, x)
		}
	}
	for _, x := range of(l, Replied) {
		if y, is := least[x.Name]; !is || x.Commit != y.Commit || !slices.Equal(x.Reads, y.Reads) {
			t.Fatalf("%+v was replied, %+v decided", x, y)
		}
	}
	slices.SortFunc(out, func(a, b Tale) int { return a.Index - b.Index })
	return out
}

// serializable checks P29.5, by a table of its own.
func serializable(t *testing.T, l []Tale) {
	t.Helper()
	table := map[string]string{}
	answered, ahead := map[api.Name]int{}, []api.Name{}
	called := map[api.Name]int{}
	for i, x := range l {
		if x.Kind == Called {
			called[x.Name] = i
		} else if _, is := answered[x.Name]; x.Kind == Replied && !is {
			answered[x.Name] = i
		}
	}
	for _, x := range committed(t, l) {
		at, is := called[x.Name]
		if !is {
			t.Fatalf("%v was never called", x.Name)
		}
		var reads []api.Read
		for _, a := range l[at].Acts {
			value, is := table[a.Key]
			told, put, after := act.Do(is, value, a)
			reads = append(reads, told...)
			if put {
				table[a.Key] = after
			}
		}
		if !slices.Equal(reads, x.Reads) {
			t.Fatalf("%v read %v, not %v", x.Name, x.Reads, reads)
		}
		for _, n := range ahead { // nobody ahead was called behind this one's reply
			if end, is := answered[x.Name]; is && called[n] > end {
				t.Fatalf("%v was replied ahead of the call of %v, but is behind it", x.Name, n)
			}
		}
		ahead = append(ahead, x.Name)
	}
}

// single checks P29.6.
func single(t *testing.T, l []Tale) {
	t.Helper()
	lead, did := map[[2]int]int{}, map[[2]int]string{}
	turned := map[int]api.Shares{}
	for _, x := range l {
		switch x.Kind {
		case Led:
			k := [2]int{x.Group, x.Term}
			if who, is := lead[k]; is && who != x.Node {
				t.Fatalf("%d and %d lead %d in term %d", who, x.Node, x.Group, x.Term)
			}
			lead[k] = x.Node
		case Applied:
			k := [2]int{x.Group, x.Index}
			if was, is := did[k]; is && was != string(x.Command) {
				t.Fatalf("of %d at %d two commands", x.Group, x.Index)
			}
			did[k] = string(x.Command)
		case Turned:
			if s, is := turned[x.Shares.Epoch]; !shares.Right(x.Shares) || is && !slices.Equal(s.List, x.Shares.List) {
				t.Fatalf("%+v", x.Shares)
			}
			turned[x.Shares.Epoch] = x.Shares
		}
	}
	owned := map[string]int{}
	for _, x := range of(l, Owned) {
		for _, k := range keys {
			if !span.Has(x.Stretch.Span, k) {
				continue
			}
			at := fmt.Sprint(k, x.Stretch.Epoch)
			if g, is := owned[at]; is && g != x.Group {
				t.Fatalf("%s is open in %d and %d under %d", k, g, x.Group, x.Stretch.Epoch)
			}
			owned[at] = x.Group
			if s, is := turned[x.Stretch.Epoch]; is {
				if y, _ := shares.Of(s, k); y.Group != x.Group || y.Epoch != x.Stretch.Epoch {
					t.Fatalf("%s is open in %d under %d, but the shares name %+v", k, x.Group, x.Stretch.Epoch, y)
				}
			}
		}
	}
}

// rested checks P29.7.
func rested(t *testing.T, w *World, stayed bool) {
	t.Helper()
	if stayed && len(w.Open()) > 0 {
		t.Errorf("open: %v", w.Open())
	}
	for n := 1; w.Disk(n) != nil; n++ {
		x := w.Node(n)
		if x == nil {
			t.Fatalf("%d is not up", n)
		}
		if len(x.Names()) > 0 {
			t.Errorf("%d has calls", n)
		}
		for g := range 5 {
			if x.State(g).Role != api.RoleLeader {
				continue
			}
			if c := x.Config(g); len(c.Old)+len(c.Want)+len(c.Learners) > 0 {
				t.Errorf("group %d: %+v", g, c)
			}
			if _, under := x.Machine(0).Registry().Scheme(); g == 0 && under {
				t.Error("a handoff is under way")
			}
		}
	}
}

func TestWhole(t *testing.T) { // P29.5 to P29.7
	replies, handoffs, changes := 0, 0, 0
	for seed := range uint32(60) {
		d := &dice{seed*7919 + 1}
		nodes := 1 + int(seed%3)
		w := newWorld(t, nodes, 0)
		w.Do(Step{Kind: Calm, Num: 30})
		stayed := true
		for range 150 {
			x := d.step(nodes)
			if x.Kind == Crash && seed%2 == 0 {
				continue
			}
			stayed = stayed && x.Kind != Crash
			w.Do(x)
		}
		l := w.History()
		serializable(t, l)
		single(t, l)
		w.Do(Step{Kind: Calm, Num: 600})
		l = w.History()
		serializable(t, l)
		single(t, l)
		rested(t, w, stayed)
		replies += len(of(l, Replied))
		handoffs += len(of(l, Turned)) - nodes
		for n := 1; n <= nodes; n++ {
			for g := range 5 {
				if !slices.Equal(w.Node(n).Config(g).Voters, w.Seats[g]) {
					changes++
				}
			}
		}
		if t.Failed() {
			t.Fatalf("seed %d", seed)
		}
	}
	if replies < 300 || handoffs < 30 || changes < 20 {
		t.Errorf("hardly anything happened: %d replies, %d handoffs, %d changes", replies, handoffs, changes)
	}
}

func TestWholeSmall(t *testing.T) { // P29.5, P29.6, on disks that get full
	for seed := range uint32(40) {
		d := &dice{seed*104729 + 5}
		nodes := 1 + int(seed%3)
		w := newWorld(t, nodes, 900+d.next(4000))
		w.Do(Step{Kind: Calm, Num: 30})
		for range 200 {
			w.Do(d.step(nodes))
		}
		w.Do(Step{Kind: Calm, Num: 60})
		serializable(t, w.History())
		single(t, w.History())
		if t.Failed() {
			t.Fatalf("seed %d", seed)
		}
	}
}

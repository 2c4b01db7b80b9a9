package witness_test

import (
	"fmt"
	"reflect"
	"slices"
	"strings"
	"testing"

	"watershed/api"
	. "watershed/witness"
	"watershed/world"
)

func name(client, num int) api.Name { return api.Name{Client: client, Num: num} }

func get(key string) api.Act          { return api.Act{Kind: api.ActGet, Key: key} }
func put(key, value string) api.Act   { return api.Act{Kind: api.ActPut, Key: key, Value: value} }
func add(key string, num int) api.Act { return api.Act{Kind: api.ActAdd, Key: key, Num: num} }
func is(key, value string) api.Read   { return api.Read{Key: key, Is: true, Value: value} }

func acts(l ...api.Act) []api.Act    { return l }
func reads(l ...api.Read) []api.Read { return l }

func row(key, value string) api.Row { return api.Row{Key: key, Value: value} }

func step(client int, acts []api.Act, reads []api.Read, called, answered int) Step {
	return Step{name(client, 1), acts, reads, called, answered}
}

// one and two are those of the first example.
func one() Step { return step(1, acts(put("k", "5")), nil, 0, 0) }
func two() Step { return step(2, acts(get("k")), reads(is("k", "5")), 0, 0) }

func names(l []Step) []int {
	var out []int
	for _, x := range l {
		out = append(out, x.Name.Client)
	}
	return out
}

func TestRight(t *testing.T) { // P30.1
	if !Right() || !Right(one(), two(), step(3, acts(get("a")), nil, 0, 1), step(3, acts(get("a")), nil, 1<<30, 0), step(3, acts(get("a")), nil, 1<<30-1, 1<<30)) {
		t.Error("these are right")
	}
	for i, x := range []Step{{}, step(9, acts(get("a")), nil, 0, 0), step(1, nil, nil, 0, 0), step(1, acts(get("A")), nil, 0, 0), step(1, acts(get("a")), nil, -1, 0), step(1, acts(get("a")), nil, 0, -1), step(1, acts(get("a")), nil, 1<<30+1, 0),
		step(1, acts(get("a")), nil, 0, 1<<30+1), step(1, acts(get("a")), nil, 5, 5), step(1, acts(get("a")), nil, 5, 4)} {
		if Right(x) || Right(one(), x) {
			t.Errorf("%d is right", i)
		}
	}
}

func TestDo(t *testing.T) { // P30.1
	table := []api.Row{row("b", "1"), row("k", "5")}
	x := step(1, acts(get("z"), add("k", 2), put("a", "v"), get("b"), get("k"), get("a")), nil, 0, 0)
	rows, told := Do(table, x)
	if !slices.Equal(rows, []api.Row{row("a", "v"), row("b", "1"), row("k", "7")}) || !slices.Equal(told, reads(api.Read{Key: "z"}, is("k", "5"), is("b", "1"), is("k", "7"), is("a", "v"))) {
		t.Errorf("%v, %v", rows, told)
	}
	rows[0].Value = "x"
	if !slices.Equal(table, []api.Row{row("b", "1"), row("k", "5")}) {
		t.Error("an argument was changed")
	}
	if rows, told := Do(nil, two()); len(rows) > 0 || !slices.Equal(told, reads(api.Read{Key: "k"})) {
		t.Errorf("%v, %v", rows, told)
	}
	for i, table := range [][]api.Row{{row("k", "5"), row("b", "1")}, {row("b", "1"), row("b", "1")}, {row("", "1")}, {row("B", "1")}, {row("b", strings.Repeat("v", 21))}} {
		if rows, told := Do(table, one()); !slices.Equal(rows, table) || len(told) > 0 {
			t.Errorf("%d: %v, %v", i, rows, told)
		}
	}
	same := step(1, acts(put("k", "9")), nil, 0, 0)
	if rows, _ := Do(table, same); rows[1].Value != "9" || table[1].Value != "5" {
		t.Error("an argument was changed")
	}
	if rows, told := Do(table, step(1, acts(put("k", "9"), get("k")), nil, -1, 0)); !slices.Equal(rows, table) || len(told) > 0 {
		t.Errorf("%v, %v", rows, told)
	}
	if rows, told := Do(table, Step{}); !slices.Equal(rows, table) || len(told) > 0 {
		t.Errorf("%v, %v", rows, told)
	}
}

func TestFit(t *testing.T) { // P30.2, example 1
	bad := two()
	bad.Name.Client = 9
	same := two()
	same.Name = one().Name
	other := step(3, acts(get("k"), get("k")), reads(is("k", "5")), 0, 0)
	for i, c := range []struct {
		l   []Step
		at  int
		err api.Errno
	}{
		{nil, 0, api.OK}, {[]Step{one(), two()}, 2, api.OK}, {[]Step{two(), one()}, 0, api.ErrShape}, {[]Step{one(), bad}, 1, api.ErrArg}, {[]Step{one(), same}, 1, api.ErrThere}, {[]Step{one(), other, bad}, 1, api.ErrShape}, {[]Step{one(), two(), two()}, 2, api.ErrThere},
		{[]Step{one(), step(3, acts(add("k", 1)), reads(is("k", "5")), 0, 0), step(4, acts(get("k")), reads(is("k", "6")), 0, 0)}, 3, api.OK},
	} {
		if at, err := Fit(c.l...); at != c.at || err != c.err {
			t.Errorf("%d: %d, %d", i, at, err)
		}
	}
}

func TestAfter(t *testing.T) { // P30.2
	l := []Step{one(), step(2, acts(put("b", "1")), nil, -1, 0), step(3, acts(add("k", 1), put("a", "x")), nil, 0, 0), one()}
	if rows := After(l[:3]...); !slices.Equal(rows, []api.Row{row("a", "x"), row("k", "6")}) {
		t.Errorf("%v", rows)
	}
	if rows := After(l...); !slices.Equal(rows, []api.Row{row("a", "x"), row("k", "5")}) || len(After()) > 0 {
		t.Errorf("%v", rows)
	}
}

func at(called, answered int) Step { return step(1, acts(get("a")), nil, called, answered) }

func TestInTime(t *testing.T) { // P30.3
	for i, c := range []struct {
		l    []Step
		a, b int
	}{
		{nil, -1, -1}, {[]Step{at(5, 3)}, -1, -1}, {[]Step{at(1, 2), at(3, 4)}, -1, -1}, {[]Step{at(3, 4), at(1, 2)}, 0, 1}, {[]Step{at(3, 5), at(1, 4)}, -1, -1}, {[]Step{at(3, 5), at(1, 3)}, 0, 1}, {[]Step{at(3, 0), at(1, 0)}, -1, -1},
		{[]Step{at(1, 0), at(9, 0), at(5, 8), at(2, 4), at(1, 3)}, 1, 2}, {[]Step{at(1, 0), at(7, 0), at(5, 8), at(2, 4), at(1, 3)}, 1, 3}, {[]Step{at(0, 0), at(0, 1)}, -1, -1}, {[]Step{at(1, 0), at(0, 1)}, 0, 1},
	} {
		if a, b := InTime(c.l...); a != c.a || b != c.b {
			t.Errorf("%d: %d, %d", i, a, b)
		}
	}
}

func TestOrder(t *testing.T) { // P30.4, example 1
	for i, c := range []struct {
		l    []Step
		want []int
		ok   bool
	}{
		{nil, nil, true}, {[]Step{one(), two()}, []int{1, 2}, true}, {[]Step{two(), one()}, []int{1, 2}, true}, {[]Step{two()}, nil, false}, {[]Step{one(), one()}, nil, false}, {[]Step{one(), {}}, nil, false},
		{[]Step{step(3, acts(get("a")), reads(api.Read{Key: "a"}), 0, 0), two(), one(), step(4, acts(get("a")), reads(api.Read{Key: "a"}), 0, 0)}, []int{3, 1, 2, 4}, true},
		{[]Step{step(3, acts(get("a")), reads(api.Read{Key: "a"}), 9, 0), step(4, acts(get("a")), reads(api.Read{Key: "a"}), 1, 9), step(5, acts(get("a")), reads(api.Read{Key: "a"}), 1, 10)}, []int{4, 3, 5}, true},
		{[]Step{step(1, acts(put("k", "5")), nil, 5, 6), step(2, acts(get("k")), reads(is("k", "5")), 1, 5)}, nil, false},
		{[]Step{step(1, acts(put("k", "5")), nil, 5, 6), step(2, acts(get("k")), reads(is("k", "5")), 1, 6)}, []int{1, 2}, true},
	} {
		got, ok := Order(c.l...)
		if ok != c.ok || !slices.Equal(names(got), c.want) {
			t.Errorf("%d: %v, %v", i, names(got), ok)
		}
		if n, err := Fit(got...); ok && (n != len(c.l) || err != api.OK) {
			t.Errorf("%d: does not fit", i)
		}
		if a, _ := InTime(got...); a != -1 {
			t.Errorf("%d: is late", i)
		}
	}
	var many []Step
	for i := range 9 {
		x := step(1, acts(add("k", 1)), reads(is("k", fmt.Sprint(i))), 0, 0)
		if x.Name.Num = i + 1; i == 0 {
			x.Reads = reads(api.Read{Key: "k"})
		}
		many = append([]Step{x}, many...)
	}
	if got, ok := Order(many[1:]...); !ok || len(got) != 8 || got[0].Name.Num != 1 || got[7].Name.Num != 8 {
		t.Errorf("%v", got)
	}
	if got, ok := Order(many...); ok || len(got) > 0 {
		t.Error("more than 8")
	}
	x := step(1, acts(get("k")), reads(api.Read{Key: "k"}), 0, 0)
	got, _ := Order(x)
	got[0].Acts[0].Key, got[0].Reads[0].Key = "z", "z"
	if x.Acts[0].Key != "k" || x.Reads[0].Key != "k" {
		t.Error("memory is shared")
	}
}

// The first one of all orders, place by place, is told.
func TestOrderIsTheFirst(t *testing.T) { // P30.4, P30.6
	seed := uint32(9)
	next := func(n int) int {
		seed = seed*1664525 + 1013904223
		return int(seed>>12) % n
	}
	var perms func(l []int, rest []int, do func([]int))
	perms = func(l, rest []int, do func([]int)) {
		if len(rest) == 0 {
			do(l)
		}
		for i, x := range rest {
			perms(append(slices.Clone(l), x), slices.Concat(rest[:i], rest[i+1:]), do)
		}
	}
	for range 200 {
		var l []Step
		for c := range 4 {
			x := step(c+1, acts([]api.Act{add("k", 1), get("k"), put("k", "9")}[next(3)]), nil, next(5), 0)
			if next(2) == 0 {
				x.Answered = x.Called + 1 + next(3)
			}
			l = append(l, x)
		}
		table := []api.Row{}
		perm := []int{0, 1, 2, 3}
		for i := range perm {
			j := next(i + 1)
			perm[i], perm[j] = perm[j], perm[i]
		}
		for _, i := range perm {
			table, l[i].Reads = Do(table, l[i])
		}
		var first []int
		perms(nil, []int{0, 1, 2, 3}, func(p []int) {
			var o []Step
			for _, i := range p {
				o = append(o, l[i])
			}
			_, err := Fit(o...)
			if a, _ := InTime(o...); first == nil && err == api.OK && a < 0 {
				first = names(o)
			}
		})
		if got, ok := Order(l...); ok != (first != nil) || !slices.Equal(names(got), first) {
			t.Fatalf("%v: %v, not %v", l, names(got), first)
		}
	}
}

func called(client int, a ...api.Act) world.Tale {
	return world.Tale{Kind: world.Called, Name: name(client, 1), Acts: a}
}

func replied(client int, commit bool, r ...api.Read) world.Tale {
	return world.Tale{Kind: world.Replied, Name: name(client, 1), Commit: commit, Reads: r}
}

func decided(client, index int, commit bool, r ...api.Read) world.Tale {
	return world.Tale{Kind: world.Decided, Node: 1, Name: name(client, 1), Index: index, Commit: commit, Reads: r}
}

func TestFrom(t *testing.T) { // P30.5
	l := []world.Tale{
		{Kind: world.Led, Node: 1}, called(1, get("a")), called(2, put("b", "1")), called(1, get("z")), decided(1, 9, true, is("a", "1")), replied(3, false), called(3, get("c")),
		replied(1, true, is("a", "1")), decided(2, 7, true), decided(3, 8, false), decided(1, 6, true, is("a", "1")), replied(1, true, is("a", "1")), decided(3, 20, false),
	}
	want := []Step{{name(1, 1), acts(get("a")), reads(is("a", "1")), 2, 8}, {name(2, 1), acts(put("b", "1")), nil, 3, 0}}
	got, ok := From(l...)
	if !ok || !reflect.DeepEqual(got, want) {
		t.Errorf("%+v, %v", got, ok)
	}
	got[0].Acts[0].Key, got[0].Reads[0].Key = "x", "x"
	if l[1].Acts[0].Key != "a" || l[4].Reads[0].Key != "a" {
		t.Error("memory is shared")
	}
	if got, ok := From(); !ok || len(got) > 0 {
		t.Error("of none")
	}
	for i, more := range [][]world.Tale{
		{decided(1, 30, false)}, {decided(1, 30, false), decided(1, 31, true, is("a", "1"))}, {decided(1, 30, true, is("a", "2")), decided(1, 31, true, is("a", "1"))}, {decided(1, 30, true, is("a", "2"))}, {decided(1, 30, true)}, {decided(3, 30, true)}, {called(4, get("a")), decided(4, 7, true)}, {called(4, get("a")), decided(4, 8, false)}, {decided(4, 30, true)},
		{replied(4, false)}, {replied(4, true)}, {replied(3, true)}, {replied(2, false)}, {replied(1, true, is("a", "2"))}, {replied(1, false, is("a", "1"))},
	} {
		if got, ok := From(slices.Concat(l, more)...); ok || len(got) > 0 {
			t.Errorf("%d: %+v", i, got)
		}
	}
	for i, more := range [][]world.Tale{{decided(4, 30, false)}, {called(4, get("a"))}, {replied(3, false, is("q", "1"))}, {decided(1, 5, true, is("a", "1"))}} {
		if got, ok := From(slices.Concat(l, more)...); !ok || len(got) < 2 {
			t.Errorf("%d: %+v", i, got)
		}
	}
}

// A world's history is steps that fit, and are in time.
func TestOfWorlds(t *testing.T) { // P30.5, P30.6
	many := 0
	for seed := range uint32(6) {
		x := seed*7919 + 3
		next := func(n int) int {
			x = x*1664525 + 1013904223
			return int(x>>10) % n
		}
		w, _ := world.New(world.Setting{Nodes: 2, First: 1, Seats: [][]int{{1, 2}, {1, 2}, {1}}})
		w.Do(world.Step{Kind: world.Calm, Num: 30})
		for range 60 {
			switch next(8) {
			case 0, 1, 2:
				w.Do(world.Step{Kind: world.Call, Node: 1 + next(2), Client: 1 + next(3), Acts: acts([]api.Act{get("k"), add("k", 1), add("m", 2)}[next(3)], get("m"))})
			case 3:
				w.Do(world.Step{Kind: world.Handoff, Node: 1 + next(2), Group: 1 + next(2), Span: api.Span{Lo: "l"}})
			case 4:
				n := 1 + next(2)
				w.Do(world.Step{Kind: world.Crash, Node: n, Num: next(40)}, world.Step{Kind: world.Start, Node: n})
			default:
				w.Do(world.Step{Kind: world.Calm, Num: next(20)})
			}
		}
		l, ok := From(w.History()...)
		n, err := Fit(l...)
		if a, b := InTime(l...); !ok || err != api.OK || n != len(l) || a != -1 || b != -1 {
			t.Errorf("seed %d: %v, %d, %d of %d, %d, %d", seed, ok, err, n, len(l), a, b)
		}
		many += n
		if l = l[:min(len(l), 6)]; len(l) > 0 {
			if o, ok := Order(l...); !ok || len(o) != len(l) {
				t.Errorf("seed %d: an order of themselves", seed)
			}
		}
	}
	if many < 20 {
		t.Errorf("hardly a step: %d", many)
	}
}

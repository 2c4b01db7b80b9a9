package machine_test

import (
	"bytes"
	"fmt"
	"reflect"
	"slices"
	"testing"

	"watershed/api"
	. "watershed/machine"
	"watershed/order"
	"watershed/shares"
)

func name(client, num int) api.Name { return api.Name{Client: client, Num: num} }

func sp(lo, hi string) api.Span { return api.Span{Lo: lo, Hi: hi} }

func get(key string) api.Act          { return api.Act{Kind: api.ActGet, Key: key} }
func add(key string, num int) api.Act { return api.Act{Kind: api.ActAdd, Key: key, Num: num} }

func put(t *testing.T, x order.Order) []byte {
	t.Helper()
	b, err := order.Put(x)
	if err != api.OK {
		t.Fatalf("%v: %d", x, err)
	}
	return b
}

// gives expects an answer to an order.
func gives(t *testing.T, m *Machine, index int, x order.Order, want order.Answer) {
	t.Helper()
	b := m.Apply(index, put(t, x))
	got, err := order.GetAnswer(b)
	if len(got.Reads) == 0 {
		got.Reads = nil
	}
	if len(got.Bytes) == 0 {
		got.Bytes = nil
	}
	if err != api.OK || !reflect.DeepEqual(got, want) {
		t.Errorf("%v: %+v, %d, not %+v", x, got, err, want)
	}
}

func prepare(n api.Name, epoch int, acts ...api.Act) order.Order {
	return order.Order{Kind: order.Prepare, Name: n, Epoch: epoch, Acts: acts}
}

func finish(n api.Name, commit bool) order.Order {
	return order.Order{Kind: order.Finish, Name: n, Commit: commit}
}

func is(key, value string) api.Read { return api.Read{Key: key, Is: true, Value: value} }

func TestNew(t *testing.T) { // P23.1
	s, _ := shares.Turn(shares.First(1), sp("c", "f"), 2)
	for group, want := range [][]api.Stretch{nil, {{Span: sp("", "c"), Epoch: 1, State: 1}, {Span: sp("f", ""), Epoch: 1, State: 1}}, {{Span: sp("c", "f"), Epoch: 2, State: 1}}, nil, nil} {
		m := New(group, s)
		if m.Group() != group || (m.Registry() != nil) != (group == 0) || (m.Tract() != nil) != (group > 0) || !slices.Equal(m.Tract().Stretches(), want) {
			t.Errorf("group %d", group)
		}
	}
	if !slices.Equal(New(0, s).Registry().Shares().List, s.List) {
		t.Error("shares")
	}
	for _, m := range []*Machine{New(-1, s), New(5, s), New(0, api.Shares{}), New(1, api.Shares{Epoch: 1})} {
		if m != nil {
			t.Error("a machine")
		}
	}
}

func TestNone(t *testing.T) { // R5
	for _, m := range []*Machine{nil, {}} {
		if m.Copy() != nil || m.Group() != -1 || len(m.Apply(1, nil)) > 0 || m.Tract() != nil || m.Registry() != nil || len(m.Bytes()) > 0 {
			t.Error("a machine that is none")
		}
	}
}

func TestTransactions(t *testing.T) { // P23.2
	m := New(1, shares.First(1))
	gives(t, m, 1, prepare(name(1, 1), 1, add("k", 5)), order.Answer{Reads: []api.Read{{Key: "k"}}})
	gives(t, m, 2, prepare(name(2, 1), 1, get("k")), order.Answer{Err: api.ErrBusy, Name: name(1, 1)})
	gives(t, m, 3, finish(name(1, 1), true), order.Answer{})
	gives(t, m, 4, prepare(name(2, 1), 1, get("k")), order.Answer{Reads: []api.Read{is("k", "5")}})
	gives(t, m, 5, prepare(name(3, 1), 9, get("k")), order.Answer{Err: api.ErrEpoch})
	gives(t, m, 6, prepare(name(3, 1), 0, get("k")), order.Answer{Err: api.ErrArg})
	gives(t, m, 7, prepare(name(1, 1), 1, get("k")), order.Answer{Err: api.ErrStale})
	if l := m.Tract().Rows(sp("", "")); !slices.Equal(l, []api.Row{{Key: "k", Value: "5"}}) {
		t.Errorf("%v", l)
	}
	gives(t, m, 8, finish(name(2, 1), false), order.Answer{})
}

func TestHandoffs(t *testing.T) { // P23.2
	m, to := New(1, shares.First(1)), New(2, shares.First(1))
	gives(t, m, 1, prepare(name(1, 1), 1, add("k", 5)), order.Answer{Reads: []api.Read{{Key: "k"}}})
	freeze := order.Order{Kind: order.Freeze, Scheme: 3, Span: sp("k", ""), Epoch: 1}
	tract := m.Tract()
	b, _ := tract.Freeze(3, sp("k", ""), 1)
	gives(t, m, 2, order.Order{Kind: order.Freeze, Scheme: 3, Epoch: 2}, order.Answer{Err: api.ErrEpoch, Scheme: 3})
	gives(t, m, 3, freeze, order.Answer{Scheme: 3, Bytes: b})
	gives(t, m, 4, finish(name(1, 1), true), order.Answer{Err: api.ErrFrozen})
	absorb := order.Order{Kind: order.Absorb, Scheme: 3, Span: sp("k", ""), Bytes: b}
	gives(t, to, 1, order.Order{Kind: order.Open, Scheme: 3, Epoch: 2}, order.Answer{Err: api.ErrScheme, Scheme: 3})
	gives(t, to, 2, order.Order{Kind: order.Absorb, Scheme: 3, Bytes: b[1:]}, order.Answer{Err: api.ErrShape, Scheme: 3})
	gives(t, to, 3, absorb, order.Answer{Scheme: 3})
	gives(t, to, 4, order.Order{Kind: order.Open, Scheme: 3, Epoch: 2}, order.Answer{Scheme: 3})
	gives(t, m, 5, order.Order{Kind: order.Drop, Scheme: 4}, order.Answer{Err: api.ErrScheme, Scheme: 4})
	gives(t, m, 6, order.Order{Kind: order.Drop, Scheme: 3}, order.Answer{Scheme: 3})
	gives(t, m, 7, freeze, order.Answer{Scheme: 3})
	if m.Tract().Ended() != 3 || to.Tract().Stretches()[0].Epoch != 2 || len(to.Tract().Holds(sp("", ""))) != 1 {
		t.Error("handed off")
	}
	gives(t, m, 8, order.Order{Kind: order.Freeze, Scheme: 4, Span: sp("a", "b"), Epoch: 1}, order.Answer{Scheme: 4, Bytes: m.Apply(0, put(t, order.Order{Kind: order.Freeze, Scheme: 4, Span: sp("a", "b"), Epoch: 1}))[9:]})
	gives(t, m, 9, order.Order{Kind: order.Thaw, Scheme: 4}, order.Answer{Scheme: 4})
	gives(t, m, 10, order.Order{Kind: order.Forget, Scheme: 9}, order.Answer{Scheme: 9})
	if m.Tract().Ended() != 9 {
		t.Error("over")
	}
}

func TestTheFirst(t *testing.T) { // P23.2
	m := New(0, shares.First(1))
	decide := order.Order{Kind: order.Decide, Name: name(1, 1), Commit: true, Reads: []api.Read{is("k", "5")}}
	look := order.Order{Kind: order.Look, Name: name(1, 1)}
	yes := order.Answer{Name: name(1, 1), Is: true, Commit: true, Reads: []api.Read{is("k", "5")}}
	gives(t, m, 4, look, order.Answer{Name: name(1, 1)})
	gives(t, m, 0, decide, order.Answer{Err: api.ErrArg})
	gives(t, m, 5, decide, yes)
	gives(t, m, 6, order.Order{Kind: order.Decide, Name: name(1, 1)}, yes)
	gives(t, m, 5, order.Order{Kind: order.Decide, Name: name(2, 1)}, order.Answer{Err: api.ErrArg})
	gives(t, m, 7, order.Order{Kind: order.Decide, Name: name(2, 1)}, order.Answer{Name: name(2, 1), Is: true})
	gives(t, m, 8, look, yes)
	if x, _ := m.Registry().Of(name(2, 1)); x.At != 7 {
		t.Errorf("%v", x)
	}
	gives(t, m, 9, order.Order{Kind: order.Ask}, order.Answer{Bytes: m.Registry().View()})
	gives(t, m, 10, order.Order{Kind: order.Begin, To: 1}, order.Answer{Err: api.ErrThere})
	gives(t, m, 11, order.Order{Kind: order.Begin, Span: sp("m", ""), To: 2}, order.Answer{Scheme: 1})
	gives(t, m, 12, order.Order{Kind: order.Begin, Span: sp("m", ""), To: 2}, order.Answer{Err: api.ErrScheme})
	gives(t, m, 13, order.Order{Kind: order.Step, Scheme: 1, Stage: 2}, order.Answer{Scheme: 1, Stage: 2})
	gives(t, m, 14, order.Order{Kind: order.Step, Scheme: 1, Stage: 0}, order.Answer{Err: api.ErrArg, Scheme: 1})
	gives(t, m, 15, order.Order{Kind: order.Step, Scheme: 1, Stage: 20}, order.Answer{Err: api.ErrArg, Scheme: 1})
	gives(t, m, 16, order.Order{Kind: order.Step, Scheme: 2, Stage: 2}, order.Answer{Err: api.ErrScheme, Scheme: 2})
	for stage := 7; stage <= 9; stage++ {
		gives(t, m, 17, order.Order{Kind: order.Step, Scheme: 1, Stage: stage}, order.Answer{Scheme: 1, Stage: stage})
	}
	gives(t, m, 18, order.Order{Kind: order.Step, Scheme: 1, Stage: 2}, order.Answer{Scheme: 1})
}

// orders is one of each kind.
func orders() []order.Order {
	return []order.Order{prepare(name(1, 1), 1, get("k")), finish(name(1, 1), true), {Kind: order.Freeze, Scheme: 1, Epoch: 1}, {Kind: order.Thaw, Scheme: 1}, {Kind: order.Absorb, Scheme: 1}, {Kind: order.Open, Scheme: 1, Epoch: 1}, {Kind: order.Drop, Scheme: 1}, {Kind: order.Forget, Scheme: 1},
		{Kind: order.Decide, Name: name(1, 1)}, {Kind: order.Look, Name: name(1, 1)}, {Kind: order.Begin, To: 2}, {Kind: order.Step, Scheme: 1, Stage: 1}, {Kind: order.Ask}}
}

func TestOtherGroups(t *testing.T) { // P23.2
	for _, x := range orders() {
		other := 1
		if x.Kind < order.Decide {
			other = 0
		}
		m := New(other, shares.First(1))
		was := m.Bytes()
		gives(t, m, 1, x, order.Answer{Err: api.ErrArg})
		if !bytes.Equal(was, m.Bytes()) {
			t.Errorf("kind %d", x.Kind)
		}
	}
	for _, group := range []int{0, 3} {
		for _, b := range [][]byte{nil, {1}, {14, 0, 0, 0, 0, 0, 0, 0, 0, 0, 0, 0, 0}} {
			if a, err := order.GetAnswer(New(group, shares.First(1)).Apply(1, b)); err != api.OK || !reflect.DeepEqual(a, order.Answer{Err: api.ErrShape}) {
				t.Errorf("%v, %d", a, err)
			}
		}
	}
}

func TestBytesAndRead(t *testing.T) { // P23.3, P23.4
	for group := range 5 {
		m := New(group, shares.First(2))
		for i, x := range orders() {
			m.Apply(i+1, put(t, x))
		}
		b := m.Bytes()
		c := m.Copy()
		back, ok := Read(group, b)
		if b[0] != byte(group) || !ok || back.Group() != group || !bytes.Equal(back.Bytes(), b) || !bytes.Equal(c.Bytes(), b) {
			t.Fatalf("group %d is read back otherwise", group)
		}
		for other := -1; other <= 5; other++ {
			if x, ok := Read(other, b); ok != (other == group) || (x != nil) != ok {
				t.Errorf("%d as %d", group, other)
			}
		}
		for cut := range b {
			if x, ok := Read(group, b[:cut]); ok || x != nil {
				t.Errorf("cut at %d", cut)
			}
		}
		if x, ok := Read(group, append(slices.Clone(b), 0)); ok || x != nil {
			t.Error("a byte behind")
		}
		for i := range 40 {
			x := put(t, prepare(name(2, 1+i/2), 1, add(fmt.Sprintf("k%d", i%7), i)))
			if i%3 == 1 {
				x = put(t, finish(name(2, 1+i/2), true))
			}
			if group == 0 {
				x = put(t, order.Order{Kind: order.Decide, Name: name(2, 1+i), Commit: i%2 == 0})
			}
			want := m.Apply(100+i, x)
			if !bytes.Equal(back.Apply(100+i, x), want) {
				t.Error("answers otherwise")
			}
		}
		if !bytes.Equal(back.Bytes(), m.Bytes()) || !bytes.Equal(c.Bytes(), b) || bytes.Equal(m.Bytes(), b) && group != 1 && group != 3 && group != 4 {
			t.Errorf("group %d goes on otherwise", group)
		}
	}
}

func TestTold(t *testing.T) { // R3
	m := New(1, shares.First(1))
	m.Tract().Finish(name(1, 9), true)
	gives(t, m, 1, prepare(name(1, 1), 1, get("k")), order.Answer{Reads: []api.Read{{Key: "k"}}})
	f := New(0, shares.First(1))
	f.Registry().Begin(sp("m", ""), 2)
	if f.Registry().Last() != 0 {
		t.Error("a registry that is told is a copy")
	}
}

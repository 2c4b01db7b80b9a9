package holds_test

import (
	"bytes"
	"fmt"
	"reflect"
	"slices"
	"strings"
	"testing"

	"watershed/api"
	. "watershed/holds"
	"watershed/span"
	"watershed/wire"
)

func name(client, num int) api.Name { return api.Name{Client: client, Num: num} }

// hold is one of a get and an add.
func hold(key string, n api.Name) api.Hold {
	return api.Hold{Key: key, Name: n, Acts: []api.Act{{Kind: api.ActGet, Key: key}, {Kind: api.ActAdd, Key: key, Num: -5}},
		Reads: []api.Read{{Key: key}, {Key: key, Is: true, Value: "7"}}, Put: true, Value: "2"}
}

func many(n int) []api.Hold {
	var l []api.Hold
	for i := range n {
		l = append(l, hold(fmt.Sprintf("k%02d", i), name(1, 1+i)))
	}
	return l
}

func of2(t *testing.T, l ...api.Hold) *Holds {
	t.Helper()
	h := New()
	if err := h.Put(l...); err != api.OK {
		t.Fatalf("put: %d", err)
	}
	return h
}

func same(a, b []api.Hold) bool {
	return len(a) == len(b) && (len(a) == 0 || reflect.DeepEqual(a, b))
}

func is(t *testing.T, h *Holds, want ...api.Hold) {
	t.Helper()
	if got := h.In(span.All()); !same(got, want) || h.Many() != len(want) {
		t.Errorf("%v, not %v", got, want)
	}
}

func wrong() []func(*api.Hold) {
	return []func(*api.Hold){
		func(h *api.Hold) { h.Name = api.Name{} }, func(h *api.Hold) { h.Name.Client = 9 }, func(h *api.Hold) { h.Acts, h.Reads, h.Put, h.Value = nil, nil, false, "" }, func(h *api.Hold) { h.Key = "other" },
		func(h *api.Hold) { h.Acts[0].Key = "other" }, func(h *api.Hold) { h.Acts[0].Num = 1 }, func(h *api.Hold) { h.Acts[0].Kind = 9 }, func(h *api.Hold) { h.Reads = h.Reads[:1] },
		func(h *api.Hold) { h.Reads = append(h.Reads, h.Reads[0]) }, func(h *api.Hold) { h.Reads[0].Key = "other" }, func(h *api.Hold) { h.Reads[0].Value = "x" }, func(h *api.Hold) { h.Reads[1].Value = strings.Repeat("v", 21) },
		func(h *api.Hold) { h.Put = false }, func(h *api.Hold) { h.Put, h.Value = false, "" }, func(h *api.Hold) { h.Value = strings.Repeat("v", 21) },
		func(h *api.Hold) { h.Acts, h.Reads, h.Value = h.Acts[:1], h.Reads[:1], "" }, func(h *api.Hold) { h.Acts, h.Reads, h.Put = h.Acts[:1], h.Reads[:1], false },
		func(h *api.Hold) { h.Acts = append(h.Acts, slices.Repeat(h.Acts[:1], 5)...) },
	}
}

func TestRight(t *testing.T) { // P16.1
	h := hold("k", name(1, 1))
	get := api.Hold{Key: "k", Name: name(8, 1), Acts: h.Acts[:1], Reads: []api.Read{{Key: "k", Is: true}}}
	put := api.Hold{Key: "k", Name: name(8, 1), Acts: []api.Act{{Kind: api.ActPut, Key: "k", Value: "x"}}, Put: true, Value: strings.Repeat("v", 20)}
	if !Right() || !Right(h, get, put) {
		t.Error("these are right")
	}
	for i, c := range wrong() {
		x := hold("k", name(1, 1))
		if c(&x); Right(x) || Right(h, x) {
			t.Errorf("%d is right", i)
		}
	}
}

func TestTable(t *testing.T) { // P16.1
	is(t, New())
	a, b, c, d := hold("a", name(2, 2)), hold("b", name(1, 3)), hold("c", name(1, 2)), hold("d", name(2, 2))
	h := of2(t, d, b, a, c)
	is(t, h, a, b, c, d)
	if x, ok := h.Of("c"); !ok || !reflect.DeepEqual(x, c) {
		t.Errorf("%v", x)
	}
	if x, ok := h.Of("e"); ok || !reflect.DeepEqual(x, api.Hold{}) {
		t.Errorf("%v", x)
	}
	if !same(h.By(name(2, 2)), []api.Hold{a, d}) || len(h.By(name(9, 9))) > 0 {
		t.Error("by")
	}
	if got := h.Names(); !slices.Equal(got, []api.Name{name(1, 2), name(2, 2), name(1, 3)}) || len(New().Names()) > 0 {
		t.Errorf("%v", got)
	}
	for i, x := range []struct {
		n    api.Name
		keys []string
		want api.Name
	}{{name(2, 2), []string{"d", "c", "b", "a"}, name(1, 3)}, {name(2, 2), []string{"a", "d"}, api.Name{}}, {name(9, 9), []string{"d", "z", "c"}, name(1, 2)}, {name(1, 1), nil, api.Name{}}, {name(1, 1), []string{"z"}, api.Name{}}} {
		if got, busy := h.Busy(x.n, x.keys...); got != x.want || busy != (x.want != api.Name{}) {
			t.Errorf("%d: %v, %v", i, got, busy)
		}
	}
	e := h.Copy()
	e.Free("a")
	is(t, h, a, b, c, d)
	is(t, e, b, c, d)
}

func TestPut(t *testing.T) { // P16.2
	h := of2(t, hold("b", name(1, 1)))
	bad := hold("c", name(1, 1))
	bad.Put = false
	for i, c := range []struct {
		l   []api.Hold
		err api.Errno
	}{
		{[]api.Hold{bad}, api.ErrArg}, {[]api.Hold{hold("b", name(1, 1)), bad}, api.ErrArg}, {[]api.Hold{hold("c", name(1, 1)), hold("c", name(1, 1))}, api.ErrArg}, {[]api.Hold{hold("b", name(1, 1)), hold("b", name(2, 1))}, api.ErrArg},
		{[]api.Hold{hold("a", name(1, 1)), hold("b", name(1, 1))}, api.ErrThere}, {append(many(60), hold("b", name(1, 1))), api.ErrThere}, {many(60), api.ErrFull}, {nil, api.OK},
	} {
		if err := h.Put(c.l...); err != c.err {
			t.Errorf("%d: %d", i, err)
		}
		is(t, h, hold("b", name(1, 1)))
	}
	if h.Put(many(59)...) != api.OK || h.Put(hold("z", name(1, 1))) != api.ErrFull || h.Put() != api.OK {
		t.Error("60 holds")
	}
	if New().Put(many(61)...) != api.ErrFull {
		t.Error("61 holds")
	}
}

func TestFreeInTake(t *testing.T) { // P16.3, P16.5
	a, b, c := hold("a", name(1, 1)), hold("b", name(2, 1)), hold("c", name(3, 1))
	h := of2(t, a, b, c)
	if got := h.Free("c", "z", "a", "a"); !same(got, []api.Hold{a, c}) {
		t.Errorf("%v", got)
	}
	is(t, h, b)
	h.Put(c, a)
	s := api.Span{Lo: "b"}
	if got := h.In(s); !same(got, []api.Hold{b, c}) || len(h.In(api.Span{Lo: "c", Hi: "b"})) > 0 {
		t.Errorf("%v", got)
	}
	got := h.Take(s)
	if !same(got, []api.Hold{b, c}) || len(h.Free()) > 0 {
		t.Errorf("%v", got)
	}
	is(t, h, a)
	h.Put(got...)
	is(t, h, a, b, c)
}

func TestWriteAndRead(t *testing.T) { // P16.4, P16.5
	w := wire.NewWriter().Numbers(7)
	if Write(w, hold("k", name(2, 300))) != w || Write(nil) != nil {
		t.Error("another writer")
	}
	b, _ := w.Done()
	want := []byte{7, 1, 1, 'k', 2, 172, 2, 2, 1, 0, 0, 0, 3, 0, 1, 5, 2, 0, 0, 1, 1, '7', 1, 1, '2'}
	if !bytes.Equal(b, want) {
		t.Errorf("%v", b)
	}
	r := wire.NewReader(append(b[1:], 9))
	if l, ok := Read(r); !ok || !same(l, []api.Hold{hold("k", name(2, 300))}) || r.Left() != 1 {
		t.Errorf("%v", l)
	}
	for _, n := range []int{0, 1, 60} {
		b, _ := Write(wire.NewWriter(), many(n)...).Done()
		if l, ok := Read(wire.NewReader(b)); !ok || !same(l, many(n)) {
			t.Errorf("%d holds", n)
		}
		for cut := range b {
			if l, ok := Read(wire.NewReader(b[:cut])); ok || len(l) > 0 {
				t.Fatalf("%d holds, cut at %d", n, cut)
			}
		}
	}
	if l, ok := Read(nil); ok || len(l) > 0 {
		t.Error("of no reader")
	}
}

func TestReadWrong(t *testing.T) { // P16.4
	for i, c := range wrong() {
		x := hold("k", name(1, 1))
		c(&x)
		if x.Key == "other" || x.Acts != nil && x.Acts[0].Key == "other" || len(x.Reads) > 0 && x.Reads[0].Key == "other" {
			continue // keys of parts are not written
		}
		b, _ := Write(wire.NewWriter(), x).Done()
		if l, ok := Read(wire.NewReader(append(b, 0))); ok || len(l) > 0 {
			t.Errorf("%d: %v", i, l)
		}
	}
	for i, l := range [][]api.Hold{many(61), {hold("b", name(1, 1)), hold("a", name(1, 1))}, {hold("b", name(1, 1)), hold("b", name(1, 1))}} {
		b, _ := Write(wire.NewWriter(), l...).Done()
		if l, ok := Read(wire.NewReader(append(b, 0))); ok || len(l) > 0 {
			t.Errorf("%d: %v", i, l)
		}
	}
	b, _ := Write(wire.NewWriter(), hold("k", name(1, 1))).Done()
	at := bytes.Index(b, []byte{3, 0, 1, 5})
	b[at+3] = 0
	if _, ok := Read(wire.NewReader(b)); ok {
		t.Error("a flag ahead of 0")
	}
	b[at+2] = 0
	if _, ok := Read(wire.NewReader(b)); !ok {
		t.Error("no flag ahead of 0")
	}
}

func TestReadNums(t *testing.T) { // P16.4
	for _, num := range []int{0, 1, -1, api.MaxNum, -api.MaxNum} {
		x := hold("k", name(1, 1))
		x.Acts[1].Num = num
		b, _ := Write(wire.NewWriter(), x).Done()
		if l, ok := Read(wire.NewReader(b)); !ok || !same(l, []api.Hold{x}) {
			t.Errorf("%d: %v", num, l)
		}
	}
}

func TestNamesAreOldestFirst(t *testing.T) { // P16.1
	h, num := New(), 7
	var want []api.Name
	for i := range 50 {
		num = num * 31 % 53
		x := hold(fmt.Sprintf("k%02d", i), name(1+num%8, 1+num%5))
		h.Put(x)
		if !slices.Contains(want, x.Name) {
			want = append(want, x.Name)
		}
	}
	slices.SortFunc(want, func(a, b api.Name) int { return 100*(a.Num-b.Num) + a.Client - b.Client })
	if got := h.Names(); !slices.Equal(got, want) || len(want) < 20 {
		t.Errorf("%v, not %v", got, want)
	}
}

func TestNone(t *testing.T) { // R5
	for _, h := range []*Holds{nil, {}} {
		_, of := h.Of("k")
		_, busy := h.Busy(name(1, 1), "k")
		if h.Copy() != nil || h.Many() != 0 || of || busy || len(h.By(name(1, 1))) > 0 || len(h.Names()) > 0 || h.Put(api.Hold{}) != api.ErrNil || len(h.Free("k")) > 0 || len(h.In(span.All())) > 0 || len(h.Take(span.All())) > 0 {
			t.Error("a table that is none")
		}
	}
}

func TestMemory(t *testing.T) { // R3
	x := hold("k", name(1, 1))
	h := of2(t, x)
	x.Acts[0].Num, x.Reads[0].Is = 9, true
	c := h.Copy()
	for _, l := range [][]api.Hold{h.In(span.All()), h.By(name(1, 1)), c.Take(span.All())} {
		l[0].Acts[0].Num, l[0].Reads[0].Is = 9, true
	}
	y, _ := h.Of("k")
	y.Acts[0].Num = 9
	is(t, h, hold("k", name(1, 1)))
}

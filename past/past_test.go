package past_test

import (
	"bytes"
	"testing"

	"watershed/api"
	. "watershed/past"
	"watershed/wire"
)

func name(client, num int) api.Name { return api.Name{Client: client, Num: num} }

func wrong() []api.Name {
	return []api.Name{{}, name(0, 1), name(9, 1), name(-1, 1), name(1, 0), name(1, -1), name(1, api.MaxNum+1)}
}

func of(t *testing.T, l ...api.Name) *Past {
	t.Helper()
	p := New()
	if err := p.Raise(l...); err != api.OK {
		t.Fatalf("raise: %d", err)
	}
	return p
}

func is(t *testing.T, p *Past, want ...int) {
	t.Helper()
	for i := range 8 {
		n := 0
		if i < len(want) {
			n = want[i]
		}
		if p.Of(i+1) != n {
			t.Errorf("client %d: %d, not %d", i+1, p.Of(i+1), n)
		}
	}
}

func TestRight(t *testing.T) { // P17.1
	if !Right() || !Right(name(1, 1), name(8, api.MaxNum)) {
		t.Error("these are right")
	}
	for _, n := range wrong() {
		if Right(n) || Right(name(1, 1), n) {
			t.Errorf("%v is not right", n)
		}
	}
}

func TestPast(t *testing.T) { // P17.1, P17.2
	is(t, New())
	p := of(t, name(2, 5), name(2, 3), name(8, api.MaxNum))
	is(t, p, 0, 5, 0, 0, 0, 0, 0, api.MaxNum)
	for _, client := range []int{0, 9, -1} {
		if p.Of(client) != 0 {
			t.Error("a client that there is not")
		}
	}
	for n, want := range map[api.Name]bool{name(2, 5): true, name(2, 1): true, name(2, 6): false, name(1, 1): false, name(8, api.MaxNum): true, name(8, api.MaxNum+1): false, name(2, 0): false, name(0, 1): false, name(9, 1): false} {
		if p.Is(n) != want {
			t.Errorf("%v", n)
		}
	}
	for _, n := range wrong() {
		if p.Raise(name(1, 9), n) != api.ErrArg {
			t.Errorf("%v", n)
		}
	}
	is(t, p, 0, 5, 0, 0, 0, 0, 0, api.MaxNum)
	c := p.Copy()
	c.Raise(name(1, 1))
	p.Raise(name(3, 3))
	is(t, c, 1, 5, 0, 0, 0, 0, 0, api.MaxNum)
	is(t, p, 0, 5, 3, 0, 0, 0, 0, api.MaxNum)
	if p.Raise() != api.OK {
		t.Error("of none")
	}
}

func TestMerge(t *testing.T) { // P17.2
	p, q, r := of(t, name(1, 5), name(2, 2)), of(t, name(1, 3), name(3, 3)), of(t, name(2, 9))
	if p.Merge(q, nil) != api.ErrNil || p.Merge(q, &Past{}) != api.ErrNil {
		t.Error("one is none")
	}
	is(t, p, 5, 2)
	if p.Merge(q, r, p) != api.OK || p.Merge() != api.OK {
		t.Error("merge")
	}
	is(t, p, 5, 9, 3)
	is(t, q, 3, 0, 3)
	is(t, r, 0, 9)
}

func TestWriteAndRead(t *testing.T) { // P17.3
	w := wire.NewWriter().Numbers(7)
	if of(t, name(1, 300), name(8, 2)).Write(w) != w || New().Write(nil) != nil {
		t.Error("another writer")
	}
	b, _ := w.Done()
	if !bytes.Equal(b, []byte{7, 172, 2, 0, 0, 0, 0, 0, 0, 2}) {
		t.Errorf("%v", b)
	}
	r := wire.NewReader(append(b[1:], 5))
	p, ok := Read(r)
	if !ok || r.Left() != 1 {
		t.Error("read")
	}
	is(t, p, 300, 0, 0, 0, 0, 0, 0, 2)
	p.Raise(name(1, 301))
	is(t, p, 301, 0, 0, 0, 0, 0, 0, 2)
	if p, ok := Read(wire.NewReader(make([]byte, 8))); !ok || p == nil {
		t.Error("noughts")
	}
	top, _ := of(t, name(8, api.MaxNum)).Write(wire.NewWriter()).Done()
	if p, ok := Read(wire.NewReader(top)); !ok || p.Of(8) != api.MaxNum {
		t.Error("the greatest")
	}
	over, _ := wire.NewWriter().Numbers(0, 0, 0, api.MaxNum+1, 0, 0, 0, 0).Done()
	for _, b := range [][]byte{nil, make([]byte, 7), over, {128, 0, 0, 0, 0, 0, 0, 0, 0}} {
		if p, ok := Read(wire.NewReader(b)); ok || p != nil {
			t.Errorf("%v", b)
		}
	}
	if p, ok := Read(nil); ok || p != nil {
		t.Error("of no reader")
	}
}

func TestNone(t *testing.T) { // P17.4
	for _, p := range []*Past{nil, {}} {
		w := wire.NewWriter()
		if p.Copy() != nil || p.Of(1) != 0 || p.Is(name(1, 1)) || p.Raise(name(0, 0)) != api.ErrNil || p.Raise() != api.ErrNil || p.Merge() != api.ErrNil || p.Merge(New()) != api.ErrNil || p.Write(w) != w {
			t.Error("a past that is none")
		}
		if b, _ := w.Done(); len(b) > 0 {
			t.Error("something was written")
		}
	}
}

func TestFollows(t *testing.T) { // P17.5
	a, b, c := of(t, name(1, 5), name(3, 1)), of(t, name(1, 7)), of(t, name(2, 2), name(3, 9))
	for _, l := range [][]*Past{{a, b, c}, {c, b, a}, {b, a, c, a, c}, {c, c, a, b}} {
		p := New()
		p.Merge(l...)
		is(t, p, 7, 2, 9)
		q := New()
		for _, x := range l {
			q.Merge(x)
		}
		is(t, q, 7, 2, 9)
	}
}

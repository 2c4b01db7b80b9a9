package tract_test

import (
	"bytes"
	"fmt"
	"slices"
	"testing"

	"watershed/api"
	"watershed/span"
	. "watershed/tract"
	"watershed/wire"
)

func cargoOf(t *testing.T, rows, heldKeys int) []byte {
	t.Helper()
	x := all()
	fill(t, x, rows)
	for i := range heldKeys {
		prepare(t, x, api.OK, name(1, 1+i), 1, put(fmt.Sprintf("h%02d", i), "w"))
	}
	b, err := x.Freeze(1, span.All(), 1)
	ok(t, err)
	return b
}

func TestFreeze(t *testing.T) { // P18.4
	x := New(share("", "p", 3), share("p", "", 4))
	do(t, x, name(2, 7), 3, put("b", "1"), put("d", "2"), put("m", "3"))
	prepare(t, x, api.OK, name(1, 1), 3, get("a"), add("e", 1), get("n"))
	for i, c := range []struct {
		scheme int
		s      api.Span
		epoch  int
		err    api.Errno
	}{
		{0, sp("c", "f"), 3, api.ErrArg}, {api.MaxNum + 1, sp("c", "f"), 3, api.ErrArg}, {5, sp("f", "c"), 3, api.ErrArg}, {5, sp("c", "f"), 0, api.ErrArg}, {5, sp("c", "f"), api.MaxEpoch + 1, api.ErrArg},
		{5, sp("c", "f"), 4, api.ErrEpoch}, {5, sp("c", "q"), 3, api.ErrEpoch}, {5, span.All(), 3, api.ErrEpoch},
	} {
		if b, err := x.Freeze(c.scheme, c.s, c.epoch); err != c.err || len(b) > 0 {
			t.Errorf("%d: %d", i, err)
		}
	}
	stretchesAre(t, x, open("", "p", 3), open("p", "", 4))
	b, err := x.Freeze(5, sp("c", "f"), 3)
	ok(t, err)
	stretchesAre(t, x, open("", "c", 3), closed("c", "f", 3, 5), open("f", "p", 3), open("p", "", 4))
	want := []byte{1, 1, 'd', 1, '2', 1, 1, 'e', 1, 1, 1, 3, 0, 0, 1, 1, 0, 0, 1, 1, '1', 0, 7, 0, 0, 0, 0, 0, 0}
	if !bytes.Equal(b, want) {
		t.Errorf("%v", b)
	}
	prepare(t, x, api.ErrEpoch, name(3, 1), 3, get("d"))
	do(t, x, name(3, 1), 3, put("b", "9"))
	again, err := x.Freeze(5, sp("", "a"), 9) // the same bytes, with the past as it is
	want[len(want)-6] = 1
	if err != api.OK || !bytes.Equal(again, want) {
		t.Errorf("%v, %d", again, err)
	}
	if b, err := x.Freeze(6, sp("g", "h"), 3); err != api.ErrScheme || len(b) > 0 {
		t.Errorf("%d", err)
	}
	if x.Ended() != 0 {
		t.Error("not over yet")
	}
}

func TestThaw(t *testing.T) { // P18.4
	for i, c := range []struct {
		l    []api.Share
		s    api.Span
		want []api.Stretch
	}{
		{[]api.Share{share("", "", 1)}, sp("c", "f"), []api.Stretch{open("", "", 1)}},
		{[]api.Share{share("", "", 1)}, sp("", ""), []api.Stretch{open("", "", 1)}},
		{[]api.Share{share("", "c", 2), share("c", "f", 1), share("f", "", 1)}, sp("c", "f"), []api.Stretch{open("", "c", 2), open("c", "", 1)}},
		{[]api.Share{share("", "b", 1), share("c", "f", 1), share("g", "", 1)}, sp("c", "f"), []api.Stretch{open("", "b", 1), open("c", "f", 1), open("g", "", 1)}},
		{[]api.Share{share("", "b", 1), share("b", "c", 1), share("c", "f", 1), share("f", "g", 1), share("g", "", 1)}, sp("c", "f"), []api.Stretch{open("", "b", 1), open("b", "g", 1), open("g", "", 1)}},
	} {
		x := New(c.l...)
		_, err := x.Freeze(3, c.s, 1)
		ok(t, err)
		if x.Thaw(0) != api.ErrArg || x.Thaw(api.MaxNum+1) != api.ErrArg {
			t.Error("no handoff")
		}
		ok(t, x.Thaw(3))
		stretchesAre(t, x, c.want...)
		if x.Ended() != 3 {
			t.Errorf("%d: ended %d", i, x.Ended())
		}
	}
	x := all()
	x.Freeze(3, sp("c", "f"), 1)
	ok(t, x.Thaw(4)) // another one: nothing is open, but it is over
	stretchesAre(t, x, open("", "c", 1), closed("c", "f", 1, 3), open("f", "", 1))
	ok(t, x.Thaw(3)) // late
	stretchesAre(t, x, open("", "c", 1), closed("c", "f", 1, 3), open("f", "", 1))
}

func TestAbsorbAndOpen(t *testing.T) { // P18.4
	from := all()
	do(t, from, name(2, 7), 1, put("k", "1"), put("m", "2"))
	prepare(t, from, api.OK, name(1, 1), 1, add("k", 4), get("n"))
	b, err := from.Freeze(9, sp("k", "p"), 1)
	ok(t, err)
	x := New(share("", "c", 3), share("x", "", 3))
	for i, c := range []struct {
		scheme int
		s      api.Span
		b      []byte
		err    api.Errno
	}{
		{0, sp("k", "p"), b, api.ErrArg}, {api.MaxNum + 1, sp("k", "p"), b, api.ErrArg}, {9, sp("p", "k"), b, api.ErrArg}, {9, sp("k", "p"), b[:len(b)-1], api.ErrShape}, {9, sp("k", "p"), append(slices.Clone(b), 0), api.ErrShape},
		{9, sp("k", "n"), b, api.ErrShape}, {9, sp("l", "p"), b, api.ErrShape}, {9, sp("b", "p"), nil, api.ErrShape}, {9, sp("b", "p"), b, api.ErrThere}, {9, sp("k", ""), b, api.ErrThere},
	} {
		if err := x.Absorb(c.scheme, c.s, c.b); err != c.err {
			t.Errorf("%d: %d", i, err)
		}
	}
	was := slices.Clone(b)
	ok(t, x.Absorb(9, sp("k", "p"), b))
	clear(b)
	rowsAre(t, x)
	heldAre(t, x)
	ok(t, x.Absorb(9, sp("a", "b"), nil))
	if x.Absorb(10, sp("d", "e"), was) != api.ErrScheme || x.Absorb(10, sp("e", "d"), was) != api.ErrArg {
		t.Error("another one")
	}
	prepare(t, x, api.ErrEpoch, name(5, 1), 4, get("k"))
	for _, c := range []struct {
		scheme, epoch int
		err           api.Errno
	}{{0, 4, api.ErrArg}, {9, 0, api.ErrArg}, {9, api.MaxEpoch + 1, api.ErrArg}, {8, 4, api.ErrScheme}, {10, 4, api.ErrScheme}} {
		if err := x.Open(c.scheme, c.epoch); err != c.err {
			t.Errorf("%v: %d", c, err)
		}
	}
	ok(t, x.Open(9, 4))
	stretchesAre(t, x, open("", "c", 3), open("k", "p", 4), open("x", "", 3))
	rowsAre(t, x, "k=1", "m=2")
	heldAre(t, x, "k", "n")
	if x.Ended() != 9 {
		t.Error("over here")
	}
	prepare(t, x, api.ErrStale, name(2, 7), 4, get("k")) // the past came along
	ok(t, x.Open(9, 7))                                  // late
	ok(t, x.Absorb(9, sp("d", "e"), nil))
	ok(t, x.Finish(name(1, 1), true)) // what is held is let go where it has come to
	rowsAre(t, x, "k=5", "m=2")
	heldAre(t, x)
	stretchesAre(t, x, open("", "c", 3), open("k", "p", 4), open("x", "", 3))
	ok(t, x.Absorb(10, sp("p", "x"), cargoEmpty()))
	ok(t, x.Open(10, 3)) // neighbours stay what they are
	stretchesAre(t, x, open("", "c", 3), open("k", "p", 4), open("p", "x", 3), open("x", "", 3))
}

func cargoEmpty() []byte { return make([]byte, 10) }

func TestAbsorbRoom(t *testing.T) { // P18.4
	x := New(share("", "f", 1))
	for i := range 350 {
		do(t, x, name(1, 1+i), 1, put(fmt.Sprintf("a%03d", i), ""))
	}
	prepare(t, x, api.OK, name(2, 1), 1, put("b", ""), get("c"))
	b := cargoOf(t, 40, 9)
	if err := x.Absorb(1, sp("f", ""), cargoOf(t, 40, 10)); err != api.ErrFull {
		t.Errorf("%d", err)
	}
	ok(t, x.Absorb(1, sp("f", ""), b))
	prepare(t, x, api.ErrFull, name(3, 1), 1, put("d", ""))
	prepare(t, x, api.OK, name(3, 1), 1, get("d"))
	ok(t, x.Open(1, 2))
	prepare(t, x, api.ErrFull, name(4, 1), 1, put("e", ""))
	y := New(share("", "f", 1))
	for i := range 30 {
		prepare(t, y, api.OK, name(1, 100+i), 1, get(fmt.Sprintf("a%d", i)))
	}
	if err := y.Absorb(1, sp("f", ""), cargoOf(t, 0, 31)); err != api.ErrFull {
		t.Errorf("%d", err)
	}
	ok(t, y.Absorb(1, sp("f", ""), cargoOf(t, 0, 30)))
	prepare(t, y, api.ErrFull, name(2, 1), 1, get("b"))
	ok(t, y.Forget(1))
	prepare(t, y, api.OK, name(2, 1), 1, get("b"))
}

func TestDropAndForget(t *testing.T) { // P18.4
	x := all()
	do(t, x, name(2, 7), 1, put("b", "1"), put("m", "2"))
	prepare(t, x, api.OK, name(1, 1), 1, get("b"), get("n"))
	if x.Drop(0) != api.ErrArg || x.Drop(3) != api.ErrScheme || x.Forget(0) != api.ErrArg || x.Forget(api.MaxNum+1) != api.ErrArg {
		t.Error("errors")
	}
	x.Freeze(3, sp("k", ""), 1)
	if x.Drop(4) != api.ErrScheme || x.Ended() != 0 {
		t.Error("another one")
	}
	ok(t, x.Drop(3))
	stretchesAre(t, x, open("", "k", 1))
	rowsAre(t, x, "b=1")
	heldAre(t, x, "b")
	if x.Ended() != 3 {
		t.Error("over here")
	}
	ok(t, x.Drop(3))
	ok(t, x.Drop(2))
	if b, err := x.Freeze(3, sp("a", "b"), 1); err != api.OK || len(b) > 0 {
		t.Errorf("late: %d", err)
	}
	if b, err := x.Freeze(2, sp("b", "a"), 1); err != api.ErrArg || len(b) > 0 {
		t.Errorf("late: %d", err)
	}
	ok(t, x.Absorb(5, sp("k", ""), cargoEmpty()))
	ok(t, x.Forget(4))
	if x.Ended() != 4 || x.Open(6, 1) != api.ErrScheme {
		t.Error("another one")
	}
	ok(t, x.Forget(5))
	ok(t, x.Open(5, 1))
	stretchesAre(t, x, open("", "k", 1))
	if x.Absorb(6, sp("k", ""), nil) != api.ErrShape {
		t.Error("none is aboard")
	}
}

func TestFirstPlace(t *testing.T) { // P18.4: what is closed, what comes, may be the first one
	x := all()
	do(t, x, name(1, 1), 1, put("a", "1"))
	b, err := x.Freeze(3, sp("", "c"), 1)
	ok(t, err)
	again, err := x.Freeze(3, sp("x", "y"), 1)
	if err != api.OK || !bytes.Equal(b, again) {
		t.Errorf("%d", err)
	}
	if _, err := x.Freeze(4, sp("x", "y"), 1); err != api.ErrScheme {
		t.Errorf("%d", err)
	}
	ok(t, x.Drop(3))
	stretchesAre(t, x, open("c", "", 1))
	ok(t, x.Absorb(4, sp("", "b"), b))
	ok(t, x.Open(4, 2))
	stretchesAre(t, x, open("", "b", 2), open("c", "", 1))
	ok(t, x.Absorb(5, sp("b", "c"), cargoEmpty()))
	ok(t, x.Open(5, 1))
	stretchesAre(t, x, open("", "b", 2), open("b", "c", 1), open("c", "", 1))
	rowsAre(t, x, "a=1")
}

func TestForgetAnother(t *testing.T) { // P18.4
	x := New()
	ok(t, x.Absorb(5, sp("k", ""), cargoEmpty()))
	ok(t, x.Forget(4))
	ok(t, x.Absorb(5, sp("k", ""), nil)) // it is aboard
	ok(t, x.Open(5, 1))
	stretchesAre(t, x, open("k", "", 1))
	y := all()
	y.Freeze(7, sp("a", "b"), 1)
	ok(t, y.Thaw(6))
	if _, err := y.Freeze(7, span.All(), 1); err != api.OK || y.Ended() != 6 {
		t.Errorf("%d", err)
	}
	ok(t, y.Drop(6))
	stretchesAre(t, y, open("", "a", 1), closed("a", "b", 1, 7), open("b", "", 1))
}

func TestHandoffIsWhole(t *testing.T) { // P18.6, example
	a, b := all(), New()
	do(t, a, name(1, 1), 1, add("k", 5))
	prepare(t, a, api.OK, name(1, 2), 1, add("k", 1), get("m"))
	want, held := a.Rows(sp("k", "")), a.Holds(sp("k", ""))
	c, err := a.Freeze(1, sp("k", ""), 1)
	ok(t, err)
	ok(t, b.Absorb(1, sp("k", ""), c))
	a.Finish(name(1, 2), true)
	a.Prepare(name(2, 1), 1, put("k", "9"))
	if !slices.Equal(a.Rows(sp("k", "")), want) || len(a.Holds(sp("k", ""))) != 2 {
		t.Error("what is closed changes")
	}
	ok(t, b.Open(1, 2))
	if !slices.Equal(b.Rows(span.All()), want) || len(b.Holds(span.All())) != len(held) {
		t.Error("what is laid is other")
	}
	ok(t, a.Drop(1))
	ok(t, b.Finish(name(1, 2), true))
	rowsAre(t, b, "k=6")
}

func full(t *testing.T) *Tract {
	x := New(share("", "p", 3), share("q", "t", 4))
	do(t, x, name(2, 7), 3, put("b", "1"), put("d", "2"))
	prepare(t, x, api.OK, name(1, 1), 3, get("a"), add("e", 1))
	x.Freeze(5, sp("c", "f"), 3)
	ok(t, x.Thaw(4))
	ok(t, x.Absorb(6, sp("t", ""), cargoEmpty()))
	return x
}

func TestWriteAndRead(t *testing.T) { // P18.5
	w := wire.NewWriter().Numbers(7)
	if full(t).Write(w) != w {
		t.Error("another writer")
	}
	b, _ := w.Done()
	want := []byte{7, 4, 0, 1, 'c', 3, 1, 0, 1, 'c', 1, 'f', 3, 2, 5, 1, 'f', 1, 'p', 3, 1, 0, 1, 'q', 1, 't', 4, 1, 0,
		2, 1, 'b', 1, '1', 1, 'd', 1, '2',
		2, 1, 'a', 1, 1, 1, 1, 0, 0, 0, 1, 0, 0, 0, 0, 1, 'e', 1, 1, 1, 3, 0, 0, 1, 1, 0, 0, 1, 1, '1',
		0, 7, 0, 0, 0, 0, 0, 0, 4, 1, 6, 1, 't', 0, 10, 0, 0, 0, 0, 0, 0, 0, 0, 0, 0}
	if !bytes.Equal(b, want) {
		t.Errorf("%v, not %v", b, want)
	}
	for _, x := range []*Tract{New(), all(), full(t)} {
		b := bytesOf(x)
		r := wire.NewReader(append(slices.Clone(b), 9))
		y, is := Read(r)
		if !is || r.Left() != 1 || !bytes.Equal(bytesOf(y), b) {
			t.Fatal("read back")
		}
		for cut := range b {
			if y, is := Read(wire.NewReader(b[:cut])); is || y != nil {
				t.Errorf("cut at %d", cut)
			}
		}
	}
	if y, is := Read(nil); is || y != nil {
		t.Error("of no reader")
	}
}

func TestReadTurned(t *testing.T) { // P18.5
	b := bytesOf(full(t))
	for i := range b {
		for v := range 256 {
			c := slices.Clone(b)
			c[i] = byte(v)
			r := wire.NewReader(c)
			if y, is := Read(r); is && r.End() == api.OK && !bytes.Equal(bytesOf(y), c) || !is && y != nil {
				t.Fatalf("byte %d as %d is read otherwise", i, v)
			}
		}
	}
}

func TestReadWrong(t *testing.T) { // P18.5
	none := []byte{0, 0, 0, 0, 0, 0, 0, 0, 0, 0, 0, 0} // rows, holds, past, ended, flag
	row := append([]byte{1, 1, 'b', 1, '1'}, none[1:]...)
	for i, c := range []struct {
		b  []byte
		is bool
	}{
		{append([]byte{1, 0, 0, 1, 1, 0}, none...), true}, {append([]byte{1, 0, 0, 1, 0, 0}, none...), false}, {append([]byte{1, 0, 0, 1, 3, 0}, none...), false}, {append([]byte{1, 0, 0, 0, 1, 0}, none...), false},
		{append([]byte{1, 0, 0, 1, 1, 1}, none...), false}, {append([]byte{1, 0, 0, 1, 2, 0}, none...), false}, {append([]byte{1, 0, 0, 1, 2, 1}, none...), true}, {append([]byte{1, 1, 'b', 1, 'a', 1, 1, 0}, none...), false},
		{append([]byte{2, 0, 1, 'm', 1, 2, 1, 1, 'm', 0, 1, 2, 2}, none...), false}, {append([]byte{2, 0, 1, 'm', 1, 2, 1, 1, 'm', 0, 1, 1, 0}, none...), true}, {append([]byte{2, 0, 1, 'm', 1, 1, 0, 1, 'l', 0, 1, 1, 0}, none...), false},
		{append([]byte{0}, none...), true}, {append([]byte{0}, row...), false}, {append([]byte{1, 1, 'c', 0, 1, 1, 0}, row...), false}, {append([]byte{1, 1, 'b', 0, 1, 1, 0}, row...), true},
		{append([]byte{0}, append(none[:11:11], 1, 3, 1, 'm', 0, 10, 0, 0, 0, 0, 0, 0, 0, 0, 0, 0)...), true},
		{append([]byte{0}, append(none[:11:11], 1, 0, 1, 'm', 0, 10, 0, 0, 0, 0, 0, 0, 0, 0, 0, 0)...), false},
		{append([]byte{0}, append(none[:11:11], 1, 3, 1, 'm', 1, 'a', 10, 0, 0, 0, 0, 0, 0, 0, 0, 0, 0)...), false},
		{append([]byte{0}, append(none[:11:11], 1, 3, 1, 'm', 0, 9, 0, 0, 0, 0, 0, 0, 0, 0, 0)...), false},
		{append([]byte{1, 0, 1, 'n', 1, 1, 0}, append(none[:11:11], 1, 3, 1, 'm', 0, 10, 0, 0, 0, 0, 0, 0, 0, 0, 0, 0)...), false},
		{append([]byte{0}, append(none[:11:11], 1, 3, 1, 'm', 0, 14, 1, 1, 'b', 1, '1', 0, 0, 0, 0, 0, 0, 0, 0, 0)...), false},
	} {
		if y, is := Read(wire.NewReader(c.b)); is != c.is || (y != nil) != is {
			t.Errorf("%d: %v", i, is)
		}
	}
}

func TestReadRoom(t *testing.T) { // P18.5
	x := New(share("", "f", 1))
	for i := range 380 {
		do(t, x, name(1, 1+i), 1, put(fmt.Sprintf("a%03d", i), ""))
	}
	ok(t, x.Absorb(1, sp("f", ""), cargoOf(t, 10, 10)))
	if _, is := Read(wire.NewReader(bytesOf(x))); !is {
		t.Error("there is room")
	}
	for more := range 2 { // beside the cargo, of 20 rows to come, there are 380 here, or one more
		y := New(share("", "f", 1))
		for i := range 370 {
			do(t, y, name(1, 1+i), 1, put(fmt.Sprintf("a%03d", i), ""))
		}
		for i := range 10 + more {
			prepare(t, y, api.OK, name(2, 1+i), 1, put(fmt.Sprintf("b%02d", i), ""))
		}
		b := bytesOf(y)
		w := wire.NewWriter().Numbers(1).Texts("f", "").Rows(cargoOf(t, 10, 10))
		aboard, _ := w.Done()
		b = append(append(b[:len(b)-1], 1), aboard...)
		if _, is := Read(wire.NewReader(b)); is != (more == 0) {
			t.Errorf("%d more: %v", more, is)
		}
	}
}

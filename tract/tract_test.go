package tract_test

import (
	"bytes"
	"fmt"
	"reflect"
	"slices"
	"testing"

	"watershed/api"
	"watershed/span"
	. "watershed/tract"
	"watershed/wire"
)

func name(client, num int) api.Name { return api.Name{Client: client, Num: num} }

func get(key string) api.Act          { return api.Act{Kind: api.ActGet, Key: key} }
func put(key, value string) api.Act   { return api.Act{Kind: api.ActPut, Key: key, Value: value} }
func add(key string, num int) api.Act { return api.Act{Kind: api.ActAdd, Key: key, Num: num} }

func sp(lo, hi string) api.Span { return api.Span{Lo: lo, Hi: hi} }

func share(lo, hi string, epoch int) api.Share {
	return api.Share{Span: sp(lo, hi), Group: 1, Epoch: epoch}
}

func open(lo, hi string, epoch int) api.Stretch {
	return api.Stretch{Span: sp(lo, hi), Epoch: epoch, State: api.StretchOpen}
}

func closed(lo, hi string, epoch, scheme int) api.Stretch {
	return api.Stretch{Span: sp(lo, hi), Epoch: epoch, State: api.StretchClosed, Scheme: scheme}
}

func ok(t *testing.T, err api.Errno) {
	t.Helper()
	if err != api.OK {
		t.Fatalf("error %d", err)
	}
}

func bytesOf(t *Tract) []byte {
	b, _ := t.Write(wire.NewWriter()).Done()
	return b
}

// prepare expects an error.
func prepare(t *testing.T, x *Tract, want api.Errno, n api.Name, epoch int, acts ...api.Act) []api.Read {
	t.Helper()
	was := bytesOf(x)
	reads, holder, err := x.Prepare(n, epoch, acts...)
	if err != want || err != api.OK && len(reads) > 0 || err != api.ErrBusy && holder != (api.Name{}) || err != api.OK && !bytes.Equal(was, bytesOf(x)) {
		t.Errorf("%v: %v, %v, %d, not %d", acts, reads, holder, err, want)
	}
	return reads
}

// do prepares and commits.
func do(t *testing.T, x *Tract, n api.Name, epoch int, acts ...api.Act) []api.Read {
	t.Helper()
	reads := prepare(t, x, api.OK, n, epoch, acts...)
	ok(t, x.Finish(n, true))
	return reads
}

func rowsAre(t *testing.T, x *Tract, want ...string) {
	t.Helper()
	var got []string
	for _, r := range x.Rows(span.All()) {
		got = append(got, r.Key+"="+r.Value)
	}
	if !slices.Equal(got, want) {
		t.Errorf("rows %v, not %v", got, want)
	}
}

func heldAre(t *testing.T, x *Tract, want ...string) {
	t.Helper()
	var got []string
	for _, h := range x.Holds(span.All()) {
		got = append(got, h.Key)
	}
	if !slices.Equal(got, want) {
		t.Errorf("holds %v, not %v", got, want)
	}
}

func stretchesAre(t *testing.T, x *Tract, want ...api.Stretch) {
	t.Helper()
	if got := x.Stretches(); !slices.Equal(got, want) {
		t.Errorf("%v, not %v", got, want)
	}
}

func all() *Tract { return New(share("", "", 1)) }

func TestNew(t *testing.T) { // P18.1
	x := New(share("", "c", 2), share("c", "f", 1), share("m", "", api.MaxEpoch))
	stretchesAre(t, x, open("", "c", 2), open("c", "f", 1), open("m", "", api.MaxEpoch))
	if x.Ended() != 0 || len(x.Rows(span.All())) > 0 || len(x.Holds(span.All())) > 0 || len(x.Names()) > 0 {
		t.Error("new")
	}
	if New() == nil {
		t.Error("without stretches")
	}
	for i, l := range [][]api.Share{{share("b", "a", 1)}, {share("", "", 0)}, {share("", "", api.MaxEpoch+1)}, {share("m", "", 1), share("", "m", 1)}, {share("", "m", 1), share("l", "", 1)}, {share("", "", 1), share("m", "", 1)}, {share("", "A", 1)}} {
		if New(l...) != nil {
			t.Errorf("%d: a tract", i)
		}
	}
}

func TestPrepareAndFinish(t *testing.T) { // P18.2, P18.3
	x := all()
	if reads := prepare(t, x, api.OK, name(1, 1), 1, add("k", 5)); !slices.Equal(reads, []api.Read{{Key: "k"}}) {
		t.Errorf("%v", reads)
	}
	heldAre(t, x, "k")
	rowsAre(t, x)
	ok(t, x.Finish(name(1, 1), true))
	heldAre(t, x)
	rowsAre(t, x, "k=5")
	acts := []api.Act{get("m"), add("k", 2), put("b", "x"), get("k"), get("b"), put("m", "y")}
	want := []api.Read{{Key: "m"}, {Key: "k", Is: true, Value: "5"}, {Key: "k", Is: true, Value: "7"}, {Key: "b", Is: true, Value: "x"}}
	for range 2 { // asked again, it tells the same
		if reads := prepare(t, x, api.OK, name(1, 2), 1, acts...); !slices.Equal(reads, want) {
			t.Errorf("%v", reads)
		}
	}
	heldAre(t, x, "b", "k", "m")
	if h := x.Holds(sp("k", "l")); len(h) != 1 || !reflect.DeepEqual(h[0], api.Hold{Key: "k", Name: name(1, 2), Acts: []api.Act{add("k", 2), get("k")}, Reads: want[1:3], Put: true, Value: "7"}) {
		t.Errorf("%+v", h)
	}
	ok(t, x.Finish(name(1, 2), false))
	rowsAre(t, x, "k=5")
	heldAre(t, x)
	do(t, x, name(1, 3), 1, acts...)
	rowsAre(t, x, "b=x", "k=7", "m=y")
	do(t, x, name(1, 4), 1, get("k"), get("z"))
	rowsAre(t, x, "b=x", "k=7", "m=y")
	if l := x.Rows(sp("c", "m")); !slices.Equal(l, []api.Row{{Key: "k", Value: "7"}}) {
		t.Errorf("%v", l)
	}
}

func TestPrepareErrors(t *testing.T) { // P18.2
	x := New(share("", "c", 2), share("c", "f", 1), share("f", "h", 2))
	for i, c := range []struct {
		n     api.Name
		epoch int
		acts  []api.Act
	}{{name(0, 1), 2, []api.Act{get("a")}}, {name(1, 1), 2, nil}, {name(1, 1), 2, []api.Act{get("A")}}, {name(1, 1), 0, []api.Act{get("a")}}, {name(1, 1), api.MaxEpoch + 1, []api.Act{get("a")}}} {
		if _, _, err := x.Prepare(c.n, c.epoch, c.acts...); err != api.ErrArg {
			t.Errorf("%d: %d", i, err)
		}
	}
	for _, key := range []string{"c", "h", "z"} {
		prepare(t, x, api.ErrEpoch, name(1, 1), 2, get("a"), get(key))
	}
	prepare(t, x, api.ErrEpoch, name(1, 1), 1, get("a"))
	prepare(t, x, api.OK, name(1, 1), 2, get("a"), put("b", "1"), get("g"))
}

func TestPrepareHeld(t *testing.T) { // P18.2
	x := New(share("", "c", 2), share("c", "f", 1))
	prepare(t, x, api.OK, name(2, 5), 2, get("a"), put("b", "1"))
	prepare(t, x, api.OK, name(2, 5), 1, get("a"))            // all its keys have holds of just these acts
	prepare(t, x, api.OK, name(2, 5), 7, put("b", "1"))       // whatever the epoch
	prepare(t, x, api.ErrStale, name(2, 5), 2, put("b", "2")) // other acts
	prepare(t, x, api.ErrStale, name(2, 5), 2, get("a"), get("a"))
	prepare(t, x, api.ErrStale, name(2, 5), 2, get("a"), get("a"), put("b", "1"))
	prepare(t, x, api.ErrStale, name(2, 5), 2, get("a"), put("b", "1"), get("b"))
	prepare(t, x, api.ErrStale, name(2, 5), 2, get("a"), get("aa"))
	prepare(t, x, api.ErrStale, name(2, 5), 2, get("a"), get("z"))
	prepare(t, x, api.OK, name(2, 5), 1, get("d")) // none of its keys has a hold
	prepare(t, x, api.ErrEpoch, name(1, 1), 2, get("a"), get("d"))
	if _, holder, err := x.Prepare(name(1, 1), 2, get("aa"), get("b"), get("a")); err != api.ErrBusy || holder != name(2, 5) {
		t.Errorf("%v, %d", holder, err)
	}
	prepare(t, x, api.ErrBusy, name(1, 1), 2, get("b"))
	heldAre(t, x, "a", "b", "d")
	ok(t, x.Finish(name(2, 5), true))
	prepare(t, x, api.ErrStale, name(2, 5), 2, get("a"))
	prepare(t, x, api.ErrStale, name(2, 4), 9, get("z")) // past, ahead of the epoch
	prepare(t, x, api.OK, name(2, 6), 2, get("a"))
	prepare(t, x, api.OK, name(1, 1), 2, get("b"))
}

func TestBusyIsTheLeastKeys(t *testing.T) { // P18.2
	x := all()
	prepare(t, x, api.OK, name(1, 9), 1, get("a"))
	prepare(t, x, api.OK, name(2, 1), 1, get("b"))
	if _, holder, err := x.Prepare(name(3, 1), 1, get("b"), get("a")); err != api.ErrBusy || holder != name(1, 9) {
		t.Errorf("%v, %d", holder, err)
	}
}

func fill(t *testing.T, x *Tract, n int) {
	t.Helper()
	for i := range n {
		do(t, x, name(8, 1+i), 1, put(fmt.Sprintf("f%03d", i), "v"))
	}
}

func TestRoom(t *testing.T) { // P18.2
	x := all()
	fill(t, x, 398)
	prepare(t, x, api.ErrFull, name(1, 1), 1, put("a", ""), put("b", ""), put("c", ""))
	prepare(t, x, api.OK, name(1, 1), 1, put("a", ""), get("b"), get("c"), add("f000", 1))
	prepare(t, x, api.OK, name(2, 1), 1, put("d", ""))
	prepare(t, x, api.ErrFull, name(3, 1), 1, put("e", ""))
	prepare(t, x, api.OK, name(3, 1), 1, put("f001", ""), get("e"))
	y := all()
	for i := range 59 {
		prepare(t, y, api.OK, name(1, 1+i), 1, get(fmt.Sprintf("k%d", i)))
	}
	prepare(t, y, api.ErrFull, name(2, 1), 1, get("a"), get("b"))
	prepare(t, y, api.OK, name(2, 1), 1, get("a"), get("a"))
	prepare(t, y, api.ErrFull, name(2, 2), 1, get("b"))
}

func TestFinish(t *testing.T) { // P18.3
	x := all()
	for _, n := range []api.Name{{}, name(9, 1), name(1, 0)} {
		if x.Finish(n, true) != api.ErrArg {
			t.Errorf("%v", n)
		}
	}
	ok(t, x.Finish(name(1, 5), true)) // a Prepare that comes late holds nothing
	prepare(t, x, api.ErrStale, name(1, 5), 1, get("k"))
	prepare(t, x, api.ErrStale, name(1, 1), 1, get("k"))
	prepare(t, x, api.OK, name(1, 6), 1, put("a", "1"), put("m", "2"))
	_, err := x.Freeze(1, sp("k", ""), 1)
	ok(t, err)
	if x.Finish(name(1, 6), true) != api.ErrFrozen {
		t.Error("a hold that is on its way")
	}
	rowsAre(t, x, "a=1")
	heldAre(t, x, "m")
	if len(x.Names()) != 0 {
		t.Error("names of open stretches")
	}
	ok(t, x.Thaw(1))
	if !slices.Equal(x.Names(), []api.Name{name(1, 6)}) {
		t.Error("names of open stretches")
	}
	ok(t, x.Finish(name(1, 6), true))
	rowsAre(t, x, "a=1", "m=2")
}

func TestNames(t *testing.T) { // P18.1
	x := all()
	prepare(t, x, api.OK, name(2, 3), 1, get("a"), get("z"))
	prepare(t, x, api.OK, name(1, 3), 1, get("b"))
	prepare(t, x, api.OK, name(5, 1), 1, get("y"))
	if got := x.Names(); !slices.Equal(got, []api.Name{name(5, 1), name(1, 3), name(2, 3)}) {
		t.Errorf("%v", got)
	}
	x.Freeze(1, sp("y", ""), 1)
	if got := x.Names(); !slices.Equal(got, []api.Name{name(1, 3), name(2, 3)}) {
		t.Errorf("%v", got)
	}
}

func TestNone(t *testing.T) { // R5, P18.5
	for _, x := range []*Tract{nil, {}} {
		w := wire.NewWriter()
		_, _, prepared := x.Prepare(api.Name{}, 0)
		_, frozen := x.Freeze(0, span.All(), 0)
		for _, err := range []api.Errno{prepared, frozen, x.Finish(api.Name{}, true), x.Thaw(0), x.Absorb(0, span.All(), nil), x.Open(0, 0), x.Drop(0), x.Forget(0)} {
			if err != api.ErrNil {
				t.Errorf("%d", err)
			}
		}
		if x.Copy() != nil || len(x.Stretches()) > 0 || x.Ended() != 0 || len(x.Rows(span.All())) > 0 || len(x.Holds(span.All())) > 0 || len(x.Names()) > 0 || x.Write(w) != w {
			t.Error("a tract that is none")
		}
		if b, _ := w.Done(); len(b) > 0 {
			t.Error("something was written")
		}
	}
	if all().Write(nil) != nil {
		t.Error("of no writer")
	}
}

func TestCopy(t *testing.T) { // P18.1
	x := all()
	do(t, x, name(1, 1), 1, put("a", "1"))
	b, _ := x.Freeze(1, sp("m", ""), 1)
	ok(t, x.Absorb(2, sp("m", ""), b)-api.ErrThere)
	c := x.Copy()
	was := bytesOf(x)
	do(t, c, name(1, 2), 1, put("a", "2"))
	ok(t, c.Drop(1))
	ok(t, c.Absorb(2, sp("m", ""), b))
	d := c.Copy()
	if !bytes.Equal(bytesOf(c), bytesOf(d)) {
		t.Error("a copy is the same")
	}
	ok(t, d.Open(2, 5))
	if !bytes.Equal(was, bytesOf(x)) || bytes.Equal(bytesOf(c), bytesOf(d)) || c.Ended() != 1 || d.Ended() != 2 {
		t.Error("memory is shared")
	}
	l := x.Stretches()
	l[0].Epoch = 9
	stretchesAre(t, x, open("", "m", 1), closed("m", "", 1, 1))
}

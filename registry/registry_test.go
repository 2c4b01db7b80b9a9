package registry_test

import (
	"bytes"
	"reflect"
	"slices"
	"testing"

	"watershed/api"
	. "watershed/registry"
	"watershed/ruling"
	"watershed/shares"
	"watershed/wire"
)

func sp(lo, hi string) api.Span { return api.Span{Lo: lo, Hi: hi} }

func yes(client, num, at int) ruling.Verdict {
	return ruling.Verdict{Name: api.Name{Client: client, Num: num}, Commit: true, At: at, Reads: []api.Read{{Key: "k"}}}
}

func no(client, num, at int) ruling.Verdict {
	return ruling.Verdict{Name: api.Name{Client: client, Num: num}, At: at}
}

func same(a, b api.Shares) bool { return a.Epoch == b.Epoch && slices.Equal(a.List, b.List) }

func bytesOf(r *Registry) []byte {
	b, _ := r.Write(wire.NewWriter()).Done()
	return b
}

func step(t *testing.T, r *Registry, num int, stages ...api.Stage) {
	t.Helper()
	for _, stage := range stages {
		if got, err := r.Step(num, stage); got != stage || err != api.OK {
			t.Fatalf("stage %d: %d, %d", stage, got, err)
		}
	}
}

func TestNew(t *testing.T) { // P21.1
	s := shares.First(3)
	r := New(s)
	if x, under := r.Scheme(); !same(r.Shares(), s) || r.Last() != 0 || under || x != (api.Scheme{}) || len(r.Rulings()) > 0 {
		t.Error("new")
	}
	s.List[0].Group = 1
	r.Shares().List[0].Group = 1
	if r.Shares().List[0].Group != 3 {
		t.Error("memory is shared")
	}
	if New(api.Shares{}) != nil || New(api.Shares{Epoch: 1}) != nil {
		t.Error("of shares that are not right")
	}
}

func TestVerdicts(t *testing.T) { // P21.1
	r := New(shares.First(1))
	if x, err := r.Decide(yes(1, 1, 5)); err != api.OK || !reflect.DeepEqual(x, yes(1, 1, 5)) {
		t.Errorf("%v, %d", x, err)
	}
	if x, err := r.Decide(no(1, 1, 6)); err != api.OK || x.At != 5 {
		t.Errorf("%v, %d", x, err)
	}
	if x, err := r.Decide(no(1, 2, 5)); err != api.ErrArg || x.At != 0 {
		t.Errorf("%v, %d", x, err)
	}
	r.Decide(no(2, 2, 7))
	if x, is := r.Of(api.Name{Client: 2, Num: 2}); !is || x.At != 7 {
		t.Errorf("%v", x)
	}
	if len(r.Rulings()) != 2 || len(r.Rulings(true)) != 1 || len(r.Rulings(false)) != 1 || r.Rulings(false)[0].At != 7 {
		t.Error("rulings")
	}
}

func TestBegin(t *testing.T) { // P21.2
	r := New(shares.First(1))
	for _, c := range []struct {
		in  api.Span
		to  int
		err api.Errno
	}{{sp("b", "a"), 2, api.ErrArg}, {sp("", ""), 5, api.ErrArg}, {sp("", ""), 1, api.ErrThere}} {
		if num, err := r.Begin(c.in, c.to); num != 0 || err != c.err || r.Last() != 0 {
			t.Errorf("%v: %d, %d", c, num, err)
		}
	}
	if num, err := r.Begin(sp("m", ""), 2); num != 1 || err != api.OK || r.Last() != 1 {
		t.Errorf("%d, %d", num, err)
	}
	if x, under := r.Scheme(); !under || x != (api.Scheme{Num: 1, Span: sp("m", ""), From: 1, To: 2, Epoch: 1, Stage: api.StageBegun}) {
		t.Errorf("%v", x)
	}
	if num, err := r.Begin(sp("b", "a"), 2); num != 0 || err != api.ErrScheme {
		t.Errorf("%d, %d", num, err)
	}
	step(t, r, 1, api.StageBack, api.StageThawed, api.StageForgotten)
	if num, err := r.Begin(sp("m", ""), 3); num != 2 || err != api.OK {
		t.Errorf("%d, %d", num, err)
	}
}

func TestStep(t *testing.T) { // P21.3, P21.6
	r := New(shares.First(1))
	r.Begin(sp("m", ""), 2)
	was := bytesOf(r)
	for _, c := range []struct {
		num   int
		stage api.Stage
		err   api.Errno
	}{{0, 2, api.ErrArg}, {api.MaxNum + 1, 2, api.ErrArg}, {1, 0, api.ErrArg}, {1, 10, api.ErrArg}, {2, 0, api.ErrArg}, {2, 2, api.ErrScheme}, {api.MaxNum, 2, api.ErrScheme}, {2, 1, api.ErrScheme}, {2, 9, api.ErrScheme}, {1, 3, api.ErrScheme}, {1, 9, api.ErrScheme}} {
		if stage, err := r.Step(c.num, c.stage); stage != 0 || err != c.err || !bytes.Equal(was, bytesOf(r)) {
			t.Errorf("%v: %d, %d", c, stage, err)
		}
	}
	step(t, r, 1, api.StageBegun, api.StageFrozen, api.StageFrozen, api.StageAbsorbed)
	if !same(r.Shares(), shares.First(1)) {
		t.Error("shares change at StageTurned alone")
	}
	step(t, r, 1, api.StageTurned)
	want, _ := shares.Turn(shares.First(1), sp("m", ""), 2)
	if x, under := r.Scheme(); !same(r.Shares(), want) || !under || x.Under != 2 || x.Stage != api.StageTurned {
		t.Errorf("%v, %v", r.Shares(), x)
	}
	step(t, r, 1, api.StageOpened, api.StageDropped)
	if x, under := r.Scheme(); under || x != (api.Scheme{}) || !same(r.Shares(), want) || r.Last() != 1 {
		t.Errorf("%v", x)
	}
	was = bytesOf(r)
	for stage := api.StageBegun; stage <= api.StageForgotten; stage++ {
		if got, err := r.Step(1, stage); got != 0 || err != api.OK || !bytes.Equal(was, bytesOf(r)) {
			t.Errorf("late: %d, %d", got, err)
		}
	}
	r.Begin(sp("m", ""), 3)
	was = bytesOf(r)
	if got, err := r.Step(1, api.StageFrozen); got != 0 || err != api.OK || !bytes.Equal(was, bytesOf(r)) {
		t.Errorf("late: %d, %d", got, err)
	}
}

func TestView(t *testing.T) { // P21.4
	r := New(shares.First(1))
	if b := r.View(); !bytes.Equal(b, []byte{1, 1, 0, 0, 1, 1, 0}) {
		t.Errorf("%v", b)
	}
	r.Begin(sp("m", ""), 2)
	b := r.View()
	if !bytes.Equal(b, []byte{1, 1, 0, 0, 1, 1, 1, 1, 1, 'm', 0, 1, 2, 1, 0, 1}) {
		t.Errorf("%v", b)
	}
	x, _ := r.Scheme()
	if s, way, under, ok := ReadView(b); !ok || !under || way != x || !same(s, r.Shares()) {
		t.Errorf("%v, %v", s, way)
	}
	if s, way, under, ok := ReadView(b[:6:6]); ok || under || way != (api.Scheme{}) || s.Epoch != 0 {
		t.Error("cut ahead of the flag")
	}
	if s, way, under, ok := ReadView([]byte{1, 1, 0, 0, 1, 1, 0}); !ok || under || way != (api.Scheme{}) || !same(s, shares.First(1)) {
		t.Errorf("%v, %v", s, way)
	}
	for cut := range b {
		if s, way, under, ok := ReadView(b[:cut]); ok || under || way != (api.Scheme{}) || s.Epoch != 0 || len(s.List) > 0 {
			t.Errorf("cut at %d", cut)
		}
	}
	for i, c := range [][]byte{append(slices.Clone(b), 0), {1, 1, 0, 0, 1, 1, 2}, {1, 0, 0}, {0, 1, 0, 0, 1, 1, 0}, {1, 1, 0, 0, 5, 1, 0}, {1, 1, 0, 0, 1, 2, 0}, {1, 1, 1, 'a', 0, 1, 1, 0},
		{1, 1, 0, 0, 1, 1, 1, 1, 1, 'm', 0, 1, 2, 1, 0, 9}, {1, 1, 0, 0, 1, 1, 1, 1, 1, 'm', 0, 1, 1, 1, 0, 1}, {2, 1, 0, 0, 1, 1, 1, 1, 1, 'm', 0, 1, 2, 1, 2, 6}} {
		if s, _, _, ok := ReadView(c); ok || s.Epoch != 0 {
			t.Errorf("%d: a view", i)
		}
	}
}

func full() *Registry {
	r := New(shares.First(1))
	r.Begin(sp("m", ""), 2)
	r.Step(1, api.StageFrozen)
	r.Decide(yes(1, 1, 5))
	r.Decide(no(2, 1, 6))
	return r
}

func TestWriteAndRead(t *testing.T) { // P21.4, P21.6
	w := wire.NewWriter().Numbers(7)
	if full().Write(w) != w || full().Write(nil) != nil {
		t.Error("another writer")
	}
	b, _ := w.Done()
	if !bytes.Equal(b, []byte{7, 1, 1, 0, 0, 1, 1, 1, 1, 1, 'm', 0, 1, 2, 1, 0, 2, 1, 2, 1, 1, 5, 1, 1, 1, 'k', 0, 0, 2, 1, 6, 0, 0}) {
		t.Errorf("%v", b)
	}
	for _, r := range []*Registry{New(shares.First(2)), full()} {
		b := bytesOf(r)
		in := wire.NewReader(append(slices.Clone(b), 9))
		x, ok := Read(in)
		if !ok || in.Left() != 1 || !bytes.Equal(bytesOf(x), b) {
			t.Fatal("read back")
		}
		r.Begin(sp("a", "b"), 3)
		x.Begin(sp("a", "b"), 3)
		r.Step(1, api.StageAbsorbed)
		x.Step(1, api.StageAbsorbed)
		r.Decide(yes(3, 3, 9))
		x.Decide(yes(3, 3, 9))
		if !bytes.Equal(bytesOf(x), bytesOf(r)) {
			t.Error("goes on otherwise")
		}
		for cut := range b {
			if x, ok := Read(wire.NewReader(b[:cut])); ok || x != nil {
				t.Errorf("cut at %d", cut)
			}
		}
	}
	b = bytesOf(full())
	b[16] = 2 // Last
	if x, ok := Read(wire.NewReader(b)); ok || x != nil {
		t.Error("the one under way is not the last one")
	}
	if x, ok := Read(nil); ok || x != nil {
		t.Error("of no reader")
	}
}

func TestCopy(t *testing.T) { // P21.1
	r := full()
	c, was := r.Copy(), bytesOf(r)
	if !bytes.Equal(was, bytesOf(c)) {
		t.Error("a copy is the same")
	}
	c.Decide(yes(3, 3, 9))
	step(t, c, 1, api.StageAbsorbed, api.StageTurned)
	if !bytes.Equal(was, bytesOf(r)) || len(c.Rulings()) != 3 || c.Shares().Epoch != 2 {
		t.Error("memory is shared")
	}
}

func TestNone(t *testing.T) { // P21.5
	for _, r := range []*Registry{nil, {}} {
		w := wire.NewWriter()
		_, under := r.Scheme()
		num, begun := r.Begin(sp("b", "a"), 0)
		stage, stepped := r.Step(0, 0)
		_, decided := r.Decide(ruling.Verdict{})
		_, is := r.Of(api.Name{Client: 1, Num: 1})
		if r.Copy() != nil || !same(r.Shares(), api.Shares{}) || under || r.Last() != 0 || num != 0 || begun != api.ErrNil || stage != 0 || stepped != api.ErrNil || decided != api.ErrNil || is || len(r.Rulings()) > 0 || len(r.View()) > 0 || r.Write(w) != w {
			t.Error("a registry that is none")
		}
		if b, _ := w.Done(); len(b) > 0 {
			t.Error("something was written")
		}
	}
}

package scheme_test

import (
	"bytes"
	"slices"
	"testing"

	"watershed/api"
	. "watershed/scheme"
	"watershed/shares"
	"watershed/wire"
)

func sp(lo, hi string) api.Span { return api.Span{Lo: lo, Hi: hi} }

func begun() api.Scheme {
	return api.Scheme{Num: 3, Span: sp("m", ""), From: 1, To: 2, Epoch: 1, Stage: api.StageBegun}
}

func at(stage api.Stage, under int) api.Scheme {
	x := begun()
	x.Stage, x.Under = stage, under
	return x
}

func same(a, b api.Shares) bool { return a.Epoch == b.Epoch && slices.Equal(a.List, b.List) }

func TestRight(t *testing.T) { // P20.1
	if !Right() {
		t.Error("of none")
	}
	for stage := api.StageBegun; stage <= api.StageForgotten; stage++ {
		turned := stage >= api.StageTurned && stage <= api.StageDropped
		for under, want := range map[int]bool{0: !turned, 1: false, 2: turned, api.MaxEpoch: turned, api.MaxEpoch + 1: false, -1: false} {
			if Right(at(stage, under)) != want {
				t.Errorf("stage %d, under %d", stage, under)
			}
		}
	}
	for i, c := range []func(*api.Scheme){
		func(x *api.Scheme) { x.Num = 0 }, func(x *api.Scheme) { x.Num = api.MaxNum + 1 }, func(x *api.Scheme) { x.Span = sp("b", "a") }, func(x *api.Scheme) { x.From = 0 }, func(x *api.Scheme) { x.From = 5 }, func(x *api.Scheme) { x.To = 0 }, func(x *api.Scheme) { x.To = 5 },
		func(x *api.Scheme) { x.To = 1 }, func(x *api.Scheme) { x.Epoch = 0 }, func(x *api.Scheme) { x.Epoch = api.MaxEpoch + 1 }, func(x *api.Scheme) { x.Stage = 0 }, func(x *api.Scheme) { x.Stage = 10 },
	} {
		x := begun()
		if c(&x); Right(x) || Right(begun(), x) {
			t.Errorf("%d is right", i)
		}
	}
}

func TestGoesAndOver(t *testing.T) { // P20.1, P20.5
	goes := map[[2]api.Stage]bool{{1, 2}: true, {2, 3}: true, {3, 4}: true, {4, 5}: true, {5, 6}: true, {1, 7}: true, {2, 7}: true, {3, 7}: true, {7, 8}: true, {8, 9}: true}
	for from := range api.Stage(12) {
		for to := range api.Stage(12) {
			if Goes(from, to) != goes[[2]api.Stage{from, to}] {
				t.Errorf("%d, %d", from, to)
			}
		}
		if Over(at(from, 0)) != (from == 6 || from == 9) {
			t.Errorf("over at %d", from)
		}
	}
}

func TestBegin(t *testing.T) { // P20.2
	x, err := Begin(shares.First(1), 3, sp("m", ""), 2)
	if err != api.OK || x != begun() {
		t.Errorf("%v, %d", x, err)
	}
	s, _ := shares.Turn(shares.First(1), sp("m", ""), 2)
	if x, err := Begin(s, api.MaxNum, sp("p", "q"), 4); err != api.OK || x != (api.Scheme{Num: api.MaxNum, Span: sp("p", "q"), From: 2, To: 4, Epoch: 2, Stage: api.StageBegun}) {
		t.Errorf("%v, %d", x, err)
	}
	last := shares.First(1)
	last.Epoch = api.MaxEpoch
	for i, c := range []struct {
		s   api.Shares
		num int
		in  api.Span
		to  int
		err api.Errno
	}{
		{s, 0, sp("", ""), 2, api.ErrArg}, {s, api.MaxNum + 1, sp("", ""), 2, api.ErrArg}, {s, 1, sp("b", "a"), 2, api.ErrArg}, {s, 1, sp("a", "b"), 5, api.ErrArg}, {api.Shares{}, 1, sp("", ""), 2, api.ErrArg},
		{s, 1, sp("", ""), 2, api.ErrNone}, {s, 1, sp("n", ""), 2, api.ErrThere}, {last, 1, sp("n", ""), 2, api.ErrFull},
	} {
		if x, err := Begin(c.s, c.num, c.in, c.to); err != c.err || x != (api.Scheme{}) {
			t.Errorf("%d: %v, %d", i, x, err)
		}
	}
}

func TestStep(t *testing.T) { // P20.3
	first := shares.First(1)
	turned, _ := shares.Turn(first, sp("m", ""), 2)
	for from := api.StageBegun; from <= api.StageForgotten; from++ {
		under := 0
		s := first
		if from >= api.StageTurned && from <= api.StageDropped {
			under, s = 2, turned
		}
		for to := range api.Stage(12) {
			x, then, err := Step(at(from, under), s, to)
			switch {
			case from == to:
				if err != api.OK || x != at(from, under) || !same(then, s) {
					t.Errorf("%d, %d: %v, %d", from, to, x, err)
				}
			case !Goes(from, to):
				if err != api.ErrScheme || x != (api.Scheme{}) || !same(then, api.Shares{}) {
					t.Errorf("%d, %d: %v, %d", from, to, x, err)
				}
			case to == api.StageTurned:
				if err != api.OK || x != at(to, 2) || !same(then, turned) {
					t.Errorf("%d, %d: %v, %d", from, to, x, err)
				}
			default:
				if err != api.OK || x != at(to, under) || !same(then, s) {
					t.Errorf("%d, %d: %v, %d", from, to, x, err)
				}
			}
		}
	}
}

func TestStepErrors(t *testing.T) { // P20.3
	first := shares.First(1)
	other, _ := shares.Turn(first, sp("a", "b"), 2)
	back, _ := shares.Turn(other, sp("a", "b"), 1)
	last := shares.First(1)
	last.Epoch = api.MaxEpoch
	change := func(c func(*api.Scheme)) api.Scheme {
		x := at(api.StageAbsorbed, 0)
		c(&x)
		return x
	}
	for i, c := range []struct {
		x   api.Scheme
		s   api.Shares
		err api.Errno
	}{
		{change(func(x *api.Scheme) { x.Num = 0 }), first, api.ErrArg}, {at(api.StageAbsorbed, 0), api.Shares{}, api.ErrArg},
		{change(func(x *api.Scheme) { x.Span = sp("a", "c") }), other, api.ErrNone}, {change(func(x *api.Scheme) { x.To, x.From = 1, 2 }), first, api.ErrThere}, {at(api.StageAbsorbed, 0), last, api.ErrFull},
		{change(func(x *api.Scheme) { x.From = 3 }), first, api.ErrScheme}, {change(func(x *api.Scheme) { x.Epoch = 2 }), first, api.ErrScheme}, {change(func(x *api.Scheme) { x.Span = sp("a", "b") }), back, api.ErrScheme},
		{change(func(x *api.Scheme) { x.Stage = api.StageFrozen }), api.Shares{Epoch: 1}, api.ErrArg},
	} {
		if x, s, err := Step(c.x, c.s, api.StageTurned); err != c.err || x != (api.Scheme{}) || !same(s, api.Shares{}) {
			t.Errorf("%d: %v, %d", i, x, err)
		}
	}
}

func TestStepIsNew(t *testing.T) { // R3
	s := shares.First(1)
	for _, to := range []api.Stage{api.StageBegun, api.StageFrozen} {
		_, then, _ := Step(begun(), s, to)
		then.List[0].Group = 4
	}
	if !same(s, shares.First(1)) {
		t.Error("memory is shared")
	}
}

func TestWriteAndRead(t *testing.T) { // P20.4
	w := wire.NewWriter().Numbers(7)
	if Write(w, at(api.StageOpened, 300)) != w || Write(nil, begun()) != nil {
		t.Error("another writer")
	}
	b, _ := w.Done()
	if !bytes.Equal(b, []byte{7, 3, 1, 'm', 0, 1, 2, 1, 172, 2, 5}) {
		t.Errorf("%v", b)
	}
	r := wire.NewReader(append(slices.Clone(b[1:]), 9))
	if x, ok := Read(r); !ok || x != at(api.StageOpened, 300) || r.Left() != 1 {
		t.Errorf("%v", x)
	}
	for cut := 1; cut < len(b); cut++ {
		if x, ok := Read(wire.NewReader(b[1:cut])); ok || x != (api.Scheme{}) {
			t.Errorf("cut at %d", cut)
		}
	}
	for _, b := range [][]byte{{0, 0, 0, 1, 2, 1, 0, 1}, {1, 1, 'b', 1, 'a', 1, 2, 1, 0, 1}, {1, 0, 0, 1, 1, 1, 0, 1}, {1, 0, 0, 1, 5, 1, 0, 1}, {1, 0, 0, 1, 2, 0, 0, 1}, {1, 0, 0, 1, 2, 1, 2, 1}, {1, 0, 0, 1, 2, 1, 1, 4}, {1, 0, 0, 1, 2, 1, 0, 0}, {1, 0, 0, 1, 2, 1, 0, 10}} {
		if x, ok := Read(wire.NewReader(b)); ok || x != (api.Scheme{}) {
			t.Errorf("%v: %v", b, x)
		}
	}
	if _, ok := Read(nil); ok {
		t.Error("of no reader")
	}
}

func TestWaysEnd(t *testing.T) { // P20.5
	var go_ func(from api.Stage, n int)
	go_ = func(from api.Stage, n int) {
		if n > 5 {
			t.Fatal("more than five times")
		}
		ends := true
		for to := api.StageBegun; to <= api.StageForgotten; to++ {
			if Goes(from, to) {
				ends = false
				go_(to, n+1)
			}
		}
		if ends != Over(at(from, 0)) {
			t.Errorf("ends at %d", from)
		}
	}
	go_(api.StageBegun, 0)
}

package mover_test

import (
	"reflect"
	"testing"

	"watershed/api"
	"watershed/clerk"
	. "watershed/mover"
	"watershed/order"
)

func at(num int, stage api.Stage) api.Scheme {
	x := api.Scheme{Num: num, Span: api.Span{Lo: "m"}, From: 1, To: 2, Epoch: 3, Stage: stage}
	if stage >= api.StageTurned && stage <= api.StageDropped {
		x.Under = 4
	}
	return x
}

func freeze(num int) order.Order {
	return order.Order{Kind: order.Freeze, Scheme: num, Span: api.Span{Lo: "m"}, Epoch: 3}
}

func absorb(num int, b string) order.Order {
	return order.Order{Kind: order.Absorb, Scheme: num, Span: api.Span{Lo: "m"}, Bytes: []byte(b)}
}

func step(num int, stage api.Stage) order.Order {
	return order.Order{Kind: order.Step, Scheme: num, Stage: int(stage)}
}

func asked(t *testing.T, what string, got []clerk.Ask, want ...clerk.Ask) {
	t.Helper()
	for i := range got {
		if len(got[i].Order.Bytes) == 0 {
			got[i].Order.Bytes = nil
		}
		if !order.Right(got[i].Order) {
			t.Errorf("%s: %+v is not right", what, got[i])
		}
	}
	if len(got) != len(want) || len(got) > 0 && !reflect.DeepEqual(got, want) {
		t.Fatalf("%s: %+v, not %+v", what, got, want)
	}
}

func works(t *testing.T, m *Mover, num int, stage api.Stage) {
	t.Helper()
	if n, s := m.Works(); n != num || s != stage {
		t.Errorf("works at %d, %d", n, s)
	}
}

func ask(tag, group int, x order.Order) clerk.Ask { return clerk.Ask{Tag: tag, Group: group, Order: x} }

func fails(err api.Errno) order.Answer { return order.Answer{Err: err} }

func TestNew(t *testing.T) { // P27.1
	m := New(100)
	works(t, m, 0, 0)
	asked(t, "at nothing", m.Tick(api.Scheme{}, false))
	asked(t, "at nothing", m.Answer(100, order.Answer{}))
	asked(t, "at nothing", m.Answer(0, order.Answer{}))
	asked(t, "first", m.Tick(at(1, api.StageBegun), true), ask(101, 1, freeze(1)))
}

func TestFirsts(t *testing.T) { // what is asked first, P27.2
	for stage, want := range map[api.Stage]clerk.Ask{
		api.StageBegun: ask(1, 1, freeze(7)), api.StageFrozen: ask(1, 1, freeze(7)), api.StageAbsorbed: ask(1, 0, step(7, api.StageTurned)),
		api.StageTurned: ask(1, 2, order.Order{Kind: order.Open, Scheme: 7, Epoch: 4}), api.StageOpened: ask(1, 1, order.Order{Kind: order.Drop, Scheme: 7}),
		api.StageBack: ask(1, 1, order.Order{Kind: order.Thaw, Scheme: 7}), api.StageThawed: ask(1, 2, order.Order{Kind: order.Forget, Scheme: 7}),
	} {
		m := New(0)
		asked(t, "first", m.Tick(at(7, stage), true), want)
		works(t, m, 7, stage)
	}
}

func TestWay(t *testing.T) { // P27.2, P27.3, example 1
	m := New(0)
	asked(t, "begun", m.Tick(at(7, api.StageBegun), true), ask(1, 1, freeze(7)))
	asked(t, "another tag", m.Answer(2, order.Answer{Bytes: []byte("x")}))
	asked(t, "frozen", m.Answer(1, order.Answer{Bytes: []byte("abc")}), ask(2, 0, step(7, api.StageFrozen)))
	asked(t, "stepped", m.Answer(2, order.Answer{}))
	for range 9 {
		asked(t, "idle", m.Tick(at(7, api.StageBegun), true))
	}
	asked(t, "idle", m.Answer(2, order.Answer{}))
	asked(t, "at frozen", m.Tick(at(7, api.StageFrozen), true), ask(3, 2, absorb(7, "abc")))
	asked(t, "absorbed", m.Answer(3, order.Answer{}), ask(4, 0, step(7, api.StageAbsorbed)))
	asked(t, "at absorbed, ahead of the answer", m.Tick(at(7, api.StageAbsorbed), true), ask(5, 0, step(7, api.StageTurned)))
	asked(t, "late", m.Answer(4, order.Answer{}))
	asked(t, "turned", m.Answer(5, order.Answer{}))
	asked(t, "at turned", m.Tick(at(7, api.StageTurned), true), ask(6, 2, order.Order{Kind: order.Open, Scheme: 7, Epoch: 4}))
	asked(t, "opened", m.Answer(6, order.Answer{}), ask(7, 0, step(7, api.StageOpened)))
	asked(t, "at opened", m.Tick(at(7, api.StageOpened), true), ask(8, 1, order.Order{Kind: order.Drop, Scheme: 7}))
	asked(t, "dropped", m.Answer(8, order.Answer{}), ask(9, 0, step(7, api.StageDropped)))
	asked(t, "over", m.Tick(at(7, api.StageDropped), true))
	works(t, m, 0, 0)
	asked(t, "over", m.Answer(9, fails(api.ErrArg)))
}

func TestWayBack(t *testing.T) { // P27.3
	m := New(0)
	m.Tick(at(7, api.StageBack), true)
	asked(t, "thawed", m.Answer(1, order.Answer{}), ask(2, 0, step(7, api.StageThawed)))
	m.Tick(at(7, api.StageThawed), true)
	asked(t, "forgotten", m.Answer(3, order.Answer{}), ask(4, 0, step(7, api.StageForgotten)))
	asked(t, "stepped, with an error", m.Answer(4, fails(api.ErrScheme)))
	asked(t, "over", m.Tick(at(7, api.StageForgotten), true))
}

func TestErrors(t *testing.T) { // P27.3
	back := step(7, api.StageBack)
	for _, stage := range []api.Stage{api.StageBegun, api.StageFrozen} {
		m := New(0)
		m.Tick(at(7, stage), true)
		asked(t, "freeze fails", m.Answer(1, order.Answer{Err: api.ErrEpoch, Bytes: []byte("x")}), ask(2, 0, back))
		asked(t, "back", m.Answer(2, fails(api.ErrScheme)))
		m = New(0)
		m.Tick(at(7, stage), true)
		asked(t, "too many bytes", m.Answer(1, order.Answer{Bytes: make([]byte, 1<<16+1)}), ask(2, 0, back))
		m = New(0)
		m.Tick(at(7, stage), true)
		asked(t, "no bytes", m.Answer(1, order.Answer{}))
	}
	m := New(0)
	m.Tick(at(7, api.StageFrozen), true)
	m.Answer(1, order.Answer{Bytes: []byte("x")})
	asked(t, "absorb fails", m.Answer(2, fails(api.ErrFull)), ask(3, 0, back))
	m = New(0)
	m.Tick(at(7, api.StageAbsorbed), true)
	asked(t, "turn fails", m.Answer(1, fails(api.ErrFull)), ask(2, 0, back))
	for _, stage := range []api.Stage{api.StageTurned, api.StageOpened, api.StageBack, api.StageThawed} {
		m := New(0)
		first := m.Tick(at(7, stage), true)
		for range 4 {
			asked(t, "waits", m.Tick(at(7, stage), true))
		}
		asked(t, "fails: from now on", m.Answer(1, fails(api.ErrScheme)))
		for range 4 {
			asked(t, "waits", m.Tick(at(7, stage), true))
		}
		asked(t, "again", m.Tick(at(7, stage), true), first...)
	}
	m = New(0)
	m.Tick(at(7, api.StageBegun), true)
	m.Answer(1, order.Answer{Bytes: []byte("x")})
	asked(t, "another step fails", m.Answer(2, fails(api.ErrScheme)))
	full := make([]byte, 1<<16)
	m = New(0)
	m.Tick(at(7, api.StageFrozen), true)
	asked(t, "the most bytes", m.Answer(1, order.Answer{Bytes: full}), ask(2, 2, absorb(7, string(full))))
}

func TestAgain(t *testing.T) { // P27.2
	m := New(0)
	m.Tick(at(7, api.StageFrozen), true)
	for range 3 {
		asked(t, "waits", m.Tick(at(7, api.StageFrozen), true))
	}
	asked(t, "no bytes: from now on", m.Answer(1, order.Answer{}))
	for range 2 {
		for range 4 {
			asked(t, "waits", m.Tick(at(7, api.StageFrozen), true))
		}
		other := at(7, api.StageFrozen)
		other.From, other.To, other.Epoch = 3, 4, 9
		asked(t, "again", m.Tick(other, true), ask(1, 1, freeze(7)))
	}
	other := at(7, api.StageFrozen)
	other.From, other.To, other.Span = 3, 4, api.Span{}
	m.Tick(other, true)
	asked(t, "by the first one", m.Answer(1, order.Answer{Bytes: []byte("x")}), ask(2, 2, absorb(7, "x")))
}

func TestBytesAreOfOneHandoff(t *testing.T) { // P27.2
	m := New(0)
	m.Tick(at(7, api.StageBegun), true)
	m.Answer(1, order.Answer{Bytes: []byte("x")})
	asked(t, "another one", m.Tick(at(8, api.StageFrozen), true), ask(3, 1, freeze(8)))
	m.Answer(3, order.Answer{Bytes: []byte("y")})
	for i, nothing := range []func() []clerk.Ask{
		func() []clerk.Ask { return m.Tick(at(8, api.StageFrozen), false) }, func() []clerk.Ask { return m.Tick(api.Scheme{}, true) }, func() []clerk.Ask { return m.Tick(at(8, api.StageForgotten), true) },
		func() []clerk.Ask { x := at(8, api.StageFrozen); x.To = 1; return m.Tick(x, true) },
	} {
		asked(t, "nothing", nothing())
		works(t, m, 0, 0)
		asked(t, "no bytes are known", m.Tick(at(8, api.StageFrozen), true), ask(5+2*i, 1, freeze(8)))
		asked(t, "frozen", m.Answer(5+2*i, order.Answer{Bytes: []byte("z")}), ask(6+2*i, 2, absorb(8, "z")))
	}
}

func TestAnotherAtTheSameStage(t *testing.T) { // P27.2
	m := New(0)
	asked(t, "begun", m.Tick(at(7, api.StageBegun), true), ask(1, 1, freeze(7)))
	asked(t, "another one", m.Tick(at(8, api.StageBegun), true), ask(2, 1, freeze(8)))
	works(t, m, 8, api.StageBegun)
	m.Answer(2, order.Answer{Bytes: []byte("x")})
	asked(t, "another one", m.Tick(at(9, api.StageFrozen), true), ask(4, 1, freeze(9)))
	m.Answer(4, order.Answer{Bytes: []byte("y")})
	asked(t, "the one of before", m.Tick(at(8, api.StageFrozen), true), ask(6, 1, freeze(8)))
}

func TestSinceIsNew(t *testing.T) { // to ask an order: Since 0
	m := New(0)
	m.Tick(at(7, api.StageBegun), true)
	for range 3 {
		m.Tick(at(7, api.StageBegun), true)
	}
	next := m.Answer(1, order.Answer{Bytes: []byte("x")})
	for range 4 {
		asked(t, "waits", m.Tick(at(7, api.StageBegun), true))
	}
	asked(t, "again", m.Tick(at(7, api.StageBegun), true), next...)
}

func TestNone(t *testing.T) { // P27.4
	for _, m := range []*Mover{nil, {}} {
		works(t, m, 0, 0)
		asked(t, "none", m.Tick(at(7, api.StageBegun), true))
		asked(t, "none", m.Answer(0, order.Answer{}))
	}
}

func TestMemory(t *testing.T) { // R3
	m, b := New(0), []byte("abc")
	m.Tick(at(7, api.StageFrozen), true)
	l := m.Answer(1, order.Answer{Bytes: b})
	b[0], l[0].Order.Bytes[0] = 'x', 'x'
	for range 4 {
		m.Tick(at(7, api.StageFrozen), true)
	}
	asked(t, "again", m.Tick(at(7, api.StageFrozen), true), ask(2, 2, absorb(7, "abc")))
}

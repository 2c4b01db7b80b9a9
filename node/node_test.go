package node_test

import (
	"bytes"
	"reflect"
	"slices"
	"testing"

	"watershed/api"
	"watershed/clerk"
	"watershed/disk"
	"watershed/frame"
	"watershed/letter"
	. "watershed/node"
	"watershed/order"
	"watershed/shares"
	"watershed/wire"
)

func ok(t *testing.T, err api.Errno) {
	t.Helper()
	if err != api.OK {
		t.Fatalf("error %d", err)
	}
}

func name(client, num int) api.Name { return api.Name{Client: client, Num: num} }

func get(key string) api.Act          { return api.Act{Kind: api.ActGet, Key: key} }
func add(key string, num int) api.Act { return api.Act{Kind: api.ActAdd, Key: key, Num: num} }
func is(key, value string) api.Read   { return api.Read{Key: key, Is: true, Value: value} }

func seats(l ...int) [][]int {
	var s [][]int
	for range 5 {
		s = append(s, l)
	}
	return s
}

// alone is node 1, which votes alone in all groups, and leads them.
func alone(t *testing.T, d *disk.Disk) *Node {
	t.Helper()
	n, err := Open(d, 1, shares.First(1), seats(1)...)
	ok(t, err)
	for range 12 {
		n.Tick(0)
	}
	return n
}

func lifeOf(n int) []byte {
	data, _ := wire.NewWriter().Numbers(n).Done()
	b, _ := frame.Put(frame.Frame{Data: data})
	return b
}

func TestOpenErrors(t *testing.T) { // P28.1
	first := shares.First(1)
	for _, d := range []*disk.Disk{nil, {}} {
		if n, err := Open(d, 0, first); n != nil || err != api.ErrNil {
			t.Errorf("%d", err)
		}
	}
	for i, c := range []struct {
		id    int
		first api.Shares
		seats [][]int
	}{{0, first, nil}, {6, first, nil}, {1, api.Shares{}, nil}, {1, first, append(seats(1), nil)}, {1, first, [][]int{{0}}}, {1, first, [][]int{nil, {6}}}, {1, first, [][]int{{2, 1}}}, {1, first, [][]int{{1, 1}}}} {
		d := disk.New(0)
		if n, err := Open(d, c.id, c.first, c.seats...); n != nil || err != api.ErrArg || len(d.Names()) > 0 {
			t.Errorf("%d: %d", i, err)
		}
	}
	other, _ := frame.Put(frame.Frame{Kind: 1, Data: []byte{1}})
	none, _ := frame.Put(frame.Frame{Data: []byte{1, 1}})
	for i, b := range [][]byte{other, none, lifeOf(1 << 29), lifeOf(1<<62 - 1)} {
		d := disk.New(0)
		d.Append("life", lifeOf(3), b)
		if n, err := Open(d, 1, first); n != nil || err != api.ErrHalt || len(d.Names()) != 1 {
			t.Errorf("%d: %d", i, err)
		}
	}
	if n, err := Open(disk.New(9), 1, first); n != nil || err != api.ErrFull {
		t.Errorf("%d", err)
	}
	d := disk.New(30)
	if n, err := Open(d, 1, first, []int{1}, []int{1}); n != nil || err != api.ErrFull {
		t.Errorf("a member's: %d", err)
	}
	if b, _ := d.Read("life"); !bytes.Equal(b, lifeOf(1)) {
		t.Error("the life is kept ahead of all else")
	}
	d = disk.New(0)
	d.Append("journal.2", none)
	d.Append("image.1", []byte{1})
	if n, err := Open(d, 1, first); n != nil || err != api.ErrHalt {
		t.Errorf("a member's: %d", err)
	}
}

func TestLife(t *testing.T) { // P28.1
	d := disk.New(0)
	for want := 1; want <= 3; want++ {
		n, err := Open(d, 2, shares.First(1), seats(3)...)
		ok(t, err)
		out, err := n.Call(name(1, 1), get("k"))
		ok(t, err)
		if len(out.Letters) != 1 || out.Letters[0].Tag != want<<32+1 {
			t.Errorf("%+v", out)
		}
		b, _ := d.Read("life")
		if l := lifeOf(want); !bytes.HasSuffix(b, l) || d.Waits() != 0 {
			t.Errorf("%v", b)
		}
		d.Append("life", lifeOf(9)[:4+want]) // torn
	}
	d = disk.New(0)
	d.Append("life", lifeOf(7), lifeOf(1<<29-1))
	if _, err := Open(d, 5, shares.First(1)); err != api.OK {
		t.Errorf("%d", err)
	}
	if b, _ := d.Read("life"); !bytes.HasSuffix(b, lifeOf(1<<29)) {
		t.Errorf("%v", b)
	}
}

func TestAlone(t *testing.T) { // P28.2 to P28.4, example 1
	n := alone(t, disk.New(0))
	for g := range 5 {
		if s := n.State(g); s.Role != api.RoleLeader || s.Id != 1 || n.Last(g) != 1 || !slices.Equal(n.Config(g).Voters, []int{1}) || n.Machine(g).Group() != g {
			t.Errorf("group %d: %+v", g, s)
		}
	}
	out, err := n.Call(name(1, 1), add("k", 5), get("k"))
	ok(t, err)
	if len(out.Letters) > 0 || !reflect.DeepEqual(out.Replies, []clerk.Reply{{Name: name(1, 1), Commit: true, Reads: []api.Read{{Key: "k"}, is("k", "5")}}}) {
		t.Errorf("%+v", out)
	}
	var kinds []order.Kind
	var where []int
	for _, d := range out.Told {
		x, _ := order.Get(d.Command)
		kinds, where = append(kinds, x.Kind), append(where, 10*d.Group+d.Index)
		if a, err := order.GetAnswer(d.Answer); err != api.OK || a.Err != api.OK {
			t.Errorf("%+v", a)
		}
	}
	if !slices.Equal(kinds, []order.Kind{order.Look, order.Ask, order.Decide, order.Prepare, order.Finish}) || !slices.Equal(where, []int{2, 3, 4, 12, 13}) {
		t.Errorf("%v, %v", kinds, where)
	}
	if l := n.Machine(1).Tract().Rows(api.Span{}); !slices.Equal(l, []api.Row{{Key: "k", Value: "5"}}) || len(n.Names()) > 0 {
		t.Errorf("%v", l)
	}
	if out, err := n.Call(name(1, 1), add("k", 5)); err != api.OK || len(out.Replies) != 1 || !out.Replies[0].Commit {
		t.Errorf("once more: %+v", out)
	}
	if out, err := n.Call(name(1, 2)); err != api.ErrArg || len(out.Told)+len(out.Letters) > 0 {
		t.Errorf("%d", err)
	}
}

func TestHandoff(t *testing.T) { // P28.4, P28.2
	n := alone(t, disk.New(0))
	n.Call(name(1, 1), add("k", 5))
	for _, c := range []struct {
		in api.Span
		to int
	}{{api.Span{Lo: "b", Hi: "a"}, 2}, {api.Span{}, 0}, {api.Span{}, 5}} {
		if out, err := n.Handoff(c.in, c.to); err != api.ErrArg || len(out.Told) > 0 {
			t.Errorf("%v: %d", c, err)
		}
	}
	out, err := n.Handoff(api.Span{Lo: "k"}, 2)
	if err != api.OK || len(out.Told) != 1 || out.Told[0].Group != 0 {
		t.Errorf("%+v, %d", out, err)
	}
	for range 6 {
		n.Tick(0)
	}
	if _, under := n.Machine(0).Registry().Scheme(); under || n.Machine(0).Registry().Shares().Epoch != 2 {
		t.Error("the handoff is not over")
	}
	if l := n.Machine(2).Tract().Rows(api.Span{}); !slices.Equal(l, []api.Row{{Key: "k", Value: "5"}}) || len(n.Machine(1).Tract().Rows(api.Span{})) > 0 {
		t.Errorf("%v", l)
	}
	out, _ = n.Call(name(1, 2), get("k"))
	for range 3 {
		if len(out.Replies) == 0 {
			out, _ = n.Call(name(1, 3), get("k"))
		}
	}
	if len(out.Replies) == 0 {
		t.Errorf("%+v", out)
	}
	f, _ := Open(disk.New(0), 2, shares.First(1), seats(1)...)
	if _, err := f.Handoff(api.Span{Lo: "b", Hi: "a"}, 2); err != api.ErrArg {
		t.Errorf("%d", err)
	}
	if _, err := f.Handoff(api.Span{}, 2); err != api.ErrLeader {
		t.Errorf("%d", err)
	}
}

func TestChangeAndCompact(t *testing.T) { // P28.4
	n := alone(t, disk.New(0))
	for _, g := range []int{-1, 5} {
		if _, err := n.Change(g, 2); err != api.ErrArg {
			t.Errorf("%d", err)
		}
		if err := n.Compact(g); err != api.ErrArg {
			t.Errorf("%d", err)
		}
	}
	if _, err := n.Change(3, 1); err != api.ErrThere {
		t.Errorf("%d", err)
	}
	out, err := n.Change(3, 1, 2)
	if err != api.OK || len(out.Letters) != 1 || out.Letters[0].Group != 3 || out.Letters[0].To != 2 || len(out.Told) > 0 {
		t.Errorf("%+v, %d", out, err)
	}
	if err := n.Compact(3); err != api.OK {
		t.Errorf("%d", err)
	}
	if err := n.Compact(3); err != api.ErrNone {
		t.Errorf("%d", err)
	}
}

func TestNoGroups(t *testing.T) { // P28.6
	n := alone(t, disk.New(0))
	for _, g := range []int{-1, 5, 99} {
		if n.State(g) != (api.Peer{}) || n.Last(g) != 0 || len(n.Config(g).Voters) > 0 || n.Machine(g) != nil {
			t.Errorf("group %d", g)
		}
	}
}

func nothing(o Out) bool { return len(o.Letters)+len(o.Replies)+len(o.Told) == 0 }

func refuses(t *testing.T, n *Node, want api.Errno) {
	t.Helper()
	a, call := n.Call(api.Name{})
	b, handoff := n.Handoff(api.Span{}, 9)
	c, change := n.Change(9)
	for _, err := range []api.Errno{call, handoff, change, n.Compact(9)} {
		if err != want {
			t.Errorf("%d, not %d", err, want)
		}
	}
	x := api.Letter{Kind: api.LetterPropose, From: 2, To: 1, Term: 1}
	if !nothing(a) || !nothing(b) || !nothing(c) || !nothing(n.Tick(1)) || !nothing(n.Letter(x)) || n.State(0) != (api.Peer{}) || n.Last(0) != 0 || len(n.Config(0).Voters) > 0 || n.Machine(0) != nil || len(n.Names()) > 0 {
		t.Error("something is told")
	}
}

func TestNone(t *testing.T) { // R5
	for _, n := range []*Node{nil, {}} {
		refuses(t, n, api.ErrNil)
		if n.Halted() {
			t.Error("halted")
		}
	}
}

func TestHalts(t *testing.T) { // P28.5
	halts := 0
	for size := 420; size < 700; size += 7 {
		d := disk.New(size)
		n := alone(t, d)
		for i := 1; i < 40 && !n.Halted(); i++ {
			rest, _ := n.Call(name(1, i), add("k", i))
			if n.Halted() && !nothing(rest) {
				t.Error("something is told of the step in which it halted")
			}
		}
		if !n.Halted() {
			t.Fatal("never halted")
		}
		halts++
		refuses(t, n, api.ErrHalt)
		d.Crash(0)
		b, _ := d.Read("journal.1")
		if again, err := Open(d, 1, shares.First(1), seats(1)...); err == api.OK && again.Last(1) == 0 && len(b) > 40 {
			t.Error("it goes on from what was kept")
		}
	}
}

func TestWhom(t *testing.T) { // to ask, to take an answer
	n, err := Open(disk.New(0), 2, shares.First(1), []int{4, 5}, []int{2, 3})
	ok(t, err)
	num := 0
	to := func() int {
		num++
		out, err := n.Call(name(1, num), get("k"))
		if err != api.OK || len(out.Letters) != 1 {
			t.Fatalf("%+v, %d", out, err)
		}
		x := out.Letters[0]
		b, _ := order.Put(order.Order{Kind: order.Look, Name: name(1, num)})
		if !letter.Same(x, api.Letter{Kind: api.LetterPropose, From: 2, To: x.To, Term: 1, Tag: 1<<32 + num, Bytes: b}) {
			t.Errorf("%+v", x)
		}
		return x.To
	}
	for _, want := range []int{4, 5, 1, 3, 4, 5} {
		if got := to(); got != want {
			t.Errorf("to %d, not %d", got, want)
		}
	}
	answer := func(x api.Letter) {
		x.Kind, x.To = api.LetterAnswer, 2
		if out := n.Letter(x); !nothing(out) {
			t.Errorf("%+v", out)
		}
	}
	for _, c := range []struct {
		x    api.Letter
		want int
	}{
		{api.Letter{From: 5, Index: 3}, 3}, {api.Letter{From: 5, Index: 2}, 4}, {api.Letter{From: 5, Index: 0}, 5}, {api.Letter{From: 5, Index: 6}, 1}, {api.Letter{From: 5, Ok: true}, 5}, {api.Letter{From: 4, Index: 1, Group: 1}, 1},
		{api.Letter{From: 4, Ok: true, Index: 3}, 4}, {api.Letter{From: 4, Index: 1}, 1}, {api.Letter{From: 4, Index: 5}, 5},
	} {
		answer(c.x)
		if got := to(); got != c.want {
			t.Errorf("%+v: to %d", c.x, got)
		}
	}
	n.Letter(api.Letter{Kind: api.LetterAppend, From: 3, To: 2, Term: 5})
	if got := to(); got != 3 {
		t.Errorf("to %d, not who leads", got)
	}
	if got := to(); got != 3 {
		t.Errorf("to %d, not who leads", got)
	}
}

func TestGuessWithoutSeats(t *testing.T) { // P28.1
	n, _ := Open(disk.New(0), 2, shares.First(1))
	for _, want := range []int{1, 3, 4} {
		num := len(n.Names()) + 1
		out, _ := n.Call(name(1, num), get("k"))
		if len(out.Letters) != 1 || out.Letters[0].To != want || len(n.Names()) != num {
			t.Errorf("%+v", out)
		}
	}
	if l := n.Names(); !slices.Equal(l, []api.Name{name(1, 1), name(1, 2), name(1, 3)}) {
		t.Errorf("%v", l)
	}
}

func TestMoverTags(t *testing.T) { // the clerk's tags begin at life times 2^32, the mover's at that and 2^31
	n, _ := Open(disk.New(0), 1, shares.First(1), []int{1}, []int{2}, []int{2})
	for range 12 {
		n.Tick(0)
	}
	if _, err := n.Handoff(api.Span{}, 2); err != api.OK {
		t.Fatalf("%d", err)
	}
	out := n.Tick(0)
	b, _ := order.Put(order.Order{Kind: order.Freeze, Scheme: 1, Epoch: 1})
	if len(out.Letters) != 1 || !letter.Same(out.Letters[0], api.Letter{Kind: api.LetterPropose, Group: 1, From: 1, To: 2, Term: 1, Tag: 1<<32 + 1<<31 + 1, Bytes: b}) {
		t.Errorf("%+v", out)
	}
	m, _ := Open(disk.New(0), 2, shares.First(1), []int{1}, []int{2}, []int{2})
	for range 12 {
		m.Tick(0)
	}
	if _, err := m.Handoff(api.Span{}, 2); err != api.ErrLeader || m.State(1).Role != api.RoleLeader {
		t.Errorf("it leads another group: %d", err)
	}
}

func TestLooksEach20thTick(t *testing.T) { // P28.2
	for g := 1; g <= 4; g++ {
		n, err := Open(disk.New(0), 1, shares.First(g), seats(1)...)
		ok(t, err)
		for range 12 {
			n.Tick(0)
		}
		b, _ := order.Put(order.Order{Kind: order.Prepare, Name: name(5, 5), Epoch: 1, Acts: []api.Act{get("k")}})
		n.Letter(api.Letter{Kind: api.LetterPropose, Group: g, From: 2, To: 1, Term: 1, Tag: 1, Bytes: b})
		for tick := 13; tick <= 41; tick++ {
			n.Tick(0)
			if held := len(n.Machine(g).Tract().Names()) == 1; held != (tick < 40) {
				t.Fatalf("group %d, tick %d: held %v", g, tick, held)
			}
		}
	}
}

func TestGuessItself(t *testing.T) { // to ask
	n, _ := Open(disk.New(0), 2, shares.First(1), []int{2, 3})
	out, _ := n.Call(name(1, 1), get("k"))
	if !nothing(out) {
		t.Errorf("its own member knows no leader: %+v", out)
	}
	out, _ = n.Call(name(1, 2), get("k"))
	if len(out.Letters) != 1 || out.Letters[0].To != 3 {
		t.Errorf("%+v", out)
	}
}

func TestAnswers(t *testing.T) { // to take an answer
	n, _ := Open(disk.New(0), 2, shares.First(1), []int{1})
	n.Call(name(1, 1), get("k"))
	b, _ := order.PutAnswer(order.Answer{Name: name(1, 1), Is: true, Commit: true, Reads: []api.Read{is("k", "1")}})
	x := api.Letter{Kind: api.LetterAnswer, From: 1, To: 2, Tag: 1<<32 + 1, Ok: true, Bytes: b}
	for i, c := range []func(*api.Letter){func(x *api.Letter) { x.Ok = false }, func(x *api.Letter) { x.Tag = 1 }, func(x *api.Letter) { x.Tag = 2<<32 + 1 }, func(x *api.Letter) { x.Tag += 1 << 31 }, func(x *api.Letter) { x.Bytes = b[1:] }, func(x *api.Letter) { x.To = 3 }, func(x *api.Letter) { x.From = 2 }, func(x *api.Letter) { x.Group = 9 }} {
		y := x
		c(&y)
		if out := n.Letter(y); !nothing(out) {
			t.Errorf("%d: %+v", i, out)
		}
	}
	out := n.Letter(x)
	if len(out.Replies) != 1 || !reflect.DeepEqual(out.Replies[0], clerk.Reply{Name: name(1, 1), Commit: true, Reads: []api.Read{is("k", "1")}}) || len(n.Names()) > 0 {
		t.Errorf("%+v", out)
	}
}

// cluster is three nodes that vote in all groups.
type cluster struct {
	t     *testing.T
	nodes []*Node
	disks []*disk.Disk
	way   []api.Letter
	out   Out
}

func newCluster(t *testing.T) *cluster {
	c := &cluster{t: t, nodes: make([]*Node, 4), disks: make([]*disk.Disk, 4)}
	for id := 1; id <= 3; id++ {
		c.disks[id] = disk.New(0)
		n, err := Open(c.disks[id], id, shares.First(1), seats(1, 2, 3)...)
		ok(t, err)
		c.nodes[id] = n
	}
	return c
}

func (c *cluster) tell(o Out) {
	if !letter.Right(o.Letters...) {
		c.t.Fatalf("letters that are not right: %+v", o.Letters)
	}
	for _, x := range o.Letters {
		y, _ := order.Get(x.Bytes)
		from := c.nodes[x.From]
		handoff := y.Kind >= order.Freeze && y.Kind <= order.Forget || y.Kind == order.Step
		sweep := y.Kind == order.Decide && !y.Commit && len(from.Names()) == 0
		if x.Kind == api.LetterPropose && (handoff && from.State(0).Role != api.RoleLeader || sweep && from.State(1).Role != api.RoleLeader) {
			c.t.Errorf("%d asks %+v, but does not lead", x.From, y)
		}
	}
	c.way = append(c.way, o.Letters...)
	c.out.Replies = append(c.out.Replies, o.Replies...)
	c.out.Told = append(c.out.Told, o.Told...)
}

func (c *cluster) rounds(n int) {
	for range n {
		l := c.way
		c.way = nil
		for _, x := range l {
			if x.To <= 3 && c.nodes[x.To] != nil {
				c.tell(c.nodes[x.To].Letter(x))
			}
		}
		for id, n := range c.nodes {
			if n != nil {
				c.tell(n.Tick(2 * id))
			}
		}
	}
}

func TestCluster(t *testing.T) { // P28.2, P28.3
	c := newCluster(t)
	c.rounds(40)
	for id := 1; id <= 3; id++ {
		out, err := c.nodes[id].Call(name(id, 1), add("k", id), get("z"))
		ok(t, err)
		c.tell(out)
	}
	c.rounds(120)
	if len(c.out.Replies) != 3 {
		t.Errorf("%+v", c.out.Replies)
	}
	sum := 0
	for _, r := range c.out.Replies {
		if r.Commit {
			sum += r.Name.Client
		}
	}
	rows := c.nodes[1].Machine(1).Tract().Rows(api.Span{})
	if sum == 0 || len(rows) != 1 || rows[0].Value != string(rune('0'+sum)) || len(c.nodes[2].Machine(1).Tract().Names()) > 0 {
		t.Errorf("%v, %d", rows, sum)
	}
	for id, n := range c.nodes {
		if id == 0 || n.State(0).Role != api.RoleLeader {
			continue
		}
		out, err := n.Handoff(api.Span{Lo: "k"}, 3)
		ok(t, err)
		c.tell(out)
	}
	c.rounds(60)
	if s := c.nodes[3].Machine(3).Tract().Stretches(); len(s) != 1 || s[0].Epoch != 2 || len(c.nodes[2].Machine(3).Tract().Rows(api.Span{})) != 1 {
		t.Errorf("%v", s)
	}
}

func TestSweeps(t *testing.T) { // P28.2
	c := newCluster(t)
	c.rounds(40)
	lead := 0
	for id := 1; id <= 3; id++ {
		if c.nodes[id].State(1).Role == api.RoleLeader {
			lead = id
		}
	}
	b, _ := order.Put(order.Order{Kind: order.Prepare, Name: name(5, 5), Epoch: 1, Acts: []api.Act{get("k")}})
	other := lead%3 + 1
	c.tell(c.nodes[lead].Letter(api.Letter{Kind: api.LetterPropose, Group: 1, From: other, To: lead, Term: 1, Tag: 1, Bytes: b}))
	c.rounds(5)
	if l := c.nodes[lead].Machine(1).Tract().Names(); !slices.Equal(l, []api.Name{name(5, 5)}) {
		t.Fatalf("%v", l)
	}
	c.rounds(15)
	if len(c.nodes[lead].Machine(1).Tract().Names()) != 1 {
		t.Error("seen once")
	}
	c.rounds(40)
	if l := c.nodes[lead].Machine(1).Tract().Names(); len(l) > 0 {
		t.Errorf("%v stays", l)
	}
	if v, is := c.nodes[other].Machine(0).Registry().Of(name(5, 5)); !is || v.Commit {
		t.Errorf("%+v", v)
	}
}

func TestRestart(t *testing.T) { // P28.7
	c := newCluster(t)
	c.rounds(40)
	out, _ := c.nodes[1].Call(name(1, 1), add("k", 1))
	c.tell(out)
	c.rounds(2)
	c.disks[1].Crash(0)
	n, err := Open(c.disks[1], 1, shares.First(1), seats(1, 2, 3)...)
	ok(t, err)
	c.nodes[1] = n
	c.rounds(150)
	out, err = n.Call(name(1, 1), add("k", 1))
	ok(t, err)
	c.tell(out)
	c.rounds(100)
	if len(c.out.Replies) == 0 {
		t.Fatal("never replied")
	}
	last := c.out.Replies[len(c.out.Replies)-1]
	if rows := n.Machine(1).Tract().Rows(api.Span{}); last.Commit != (len(rows) == 1) || len(n.Names()) > 0 {
		t.Errorf("%+v, %v", last, rows)
	}
}

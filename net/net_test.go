package net_test

import (
	"math"
	"slices"
	"testing"

	"watershed/api"
	"watershed/letter"
	. "watershed/net"
)

func some(from, to, tag int) api.Letter {
	return api.Letter{Kind: api.LetterPropose, From: from, To: to, Term: 1, Tag: tag, Bytes: []byte{byte(tag)}}
}

func tags(l []api.Letter) []int {
	var out []int
	for _, x := range l {
		out = append(out, x.Tag)
	}
	return out
}

func is(t *testing.T, n *Net, from, to int, want ...int) {
	t.Helper()
	if got := tags(n.Waiting(from, to)); !slices.Equal(got, want) {
		t.Errorf("%d to %d: %v, not %v", from, to, got, want)
	}
}

func delivers(t *testing.T, n *Net, from, to, tag int) {
	t.Helper()
	if x, ok := n.Deliver(from, to); !ok || !letter.Same(x, some(from, to, tag)) {
		t.Errorf("%+v, not %d", x, tag)
	}
}

func TestSend(t *testing.T) { // P25.1, P25.2
	n := New()
	if n.Many() != 0 || n.Send() != 0 {
		t.Error("new")
	}
	wrong := some(1, 2, 3)
	wrong.Group = 9
	if n.Send(some(1, 2, 1), wrong, some(2, 1, 2), some(1, 2, 3), some(5, 5, 4), some(0, 1, 5), some(1, 6, 6)) != 4 || n.Many() != 4 {
		t.Error("how many were put")
	}
	is(t, n, 1, 2, 1, 3)
	is(t, n, 2, 1, 2)
	is(t, n, 5, 5, 4)
	is(t, n, 3, 1)
	is(t, n, 0, 1)
	for i := range 50 {
		if got := n.Send(some(3, 4, i)); (got == 1) != (i < 40) {
			t.Errorf("%d: %d", i, got)
		}
	}
	if n.Many() != 44 || n.Send(some(3, 4, 1), some(4, 3, 1)) != 1 {
		t.Error("a full link")
	}
	n.Lose(3, 4)
	if n.Send(some(3, 4, 99), some(3, 4, 100)) != 1 {
		t.Error("there is room again")
	}
}

func TestLink(t *testing.T) { // P25.3, P25.6, example 1
	n := New()
	n.Send(some(1, 2, 1), some(1, 2, 2), some(1, 2, 3), some(2, 1, 9))
	delivers(t, n, 1, 2, 1)
	if !n.Forward(1, 2) {
		t.Error("forward")
	}
	is(t, n, 1, 2, 3, 2)
	if !n.Twice(1, 2) {
		t.Error("twice")
	}
	is(t, n, 1, 2, 3, 2, 3)
	if !n.Lose(1, 2) {
		t.Error("lose")
	}
	is(t, n, 1, 2, 2, 3)
	if !n.Forward(1, 2) || !n.Forward(1, 2) {
		t.Error("forward")
	}
	delivers(t, n, 1, 2, 2)
	if !n.Forward(1, 2) {
		t.Error("forward of one")
	}
	delivers(t, n, 1, 2, 3)
	is(t, n, 1, 2)
	is(t, n, 2, 1, 9)
	if n.Many() != 1 {
		t.Error("many")
	}
}

func TestTwiceOfAFullLink(t *testing.T) { // P25.3
	n := New()
	for i := range 39 {
		n.Send(some(1, 2, i))
	}
	if !n.Twice(1, 2) || n.Twice(1, 2) || n.Many() != 40 || !n.Forward(1, 2) {
		t.Error("at most 40")
	}
	delivers(t, n, 1, 2, 0)
	delivers(t, n, 1, 2, 0)
	delivers(t, n, 1, 2, 1)
}

func TestTake(t *testing.T) { // P25.4
	n := New()
	n.Send(some(5, 2, 1), some(1, 2, 2), some(3, 2, 3), some(1, 3, 4), some(1, 2, 5), some(2, 2, 6))
	if l := n.Take(2); !slices.Equal(tags(l), []int{2, 5, 6, 3, 1}) || n.Many() != 1 || len(n.Take(2)) != 0 {
		t.Errorf("%v", tags(l))
	}
	is(t, n, 1, 3, 4)
}

func none(t *testing.T, n *Net, from, to int) {
	t.Helper()
	x, ok := n.Deliver(from, to)
	if ok || !letter.Same(x, api.Letter{}) || n.Lose(from, to) || n.Twice(from, to) || n.Forward(from, to) || len(n.Waiting(from, to)) > 0 {
		t.Errorf("%d to %d", from, to)
	}
}

func TestNone(t *testing.T) { // P25.3, P25.5
	n := New()
	n.Send(some(1, 2, 1))
	for _, link := range [][2]int{{2, 1}, {1, 1}, {0, 1}, {1, 0}, {6, 1}, {1, 6}, {-1, -1}, {math.MaxInt, math.MinInt}} {
		none(t, n, link[0], link[1])
		if link[1] != 2 && len(n.Take(link[1])) > 0 {
			t.Error("take")
		}
	}
	is(t, n, 1, 2, 1)
	for _, n := range []*Net{nil, {}} {
		none(t, n, 1, 2)
		if n.Copy() != nil || n.Send(some(1, 2, 1)) != 0 || n.Many() != 0 || len(n.Take(2)) > 0 {
			t.Error("a net that is none")
		}
	}
}

func TestMemory(t *testing.T) { // P25.1, R3
	n, x := New(), some(1, 2, 1)
	n.Send(x)
	n.Twice(1, 2)
	x.Bytes[0] = 9
	n.Waiting(1, 2)[0].Bytes[0] = 9
	c := n.Copy()
	c.Take(2)[0].Bytes[0] = 9
	c.Send(some(1, 2, 7))
	first, _ := n.Deliver(1, 2)
	first.Bytes[0] = 9
	delivers(t, n, 1, 2, 1)
	is(t, n, 1, 2)
	is(t, c, 1, 2, 7)
}

func TestInOrder(t *testing.T) { // P25.6
	n, sent := New(), 0
	for i := range 400 {
		if n.Send(some(1, 2, i)) == 1 {
			sent++
		}
		if i%3 > 0 {
			delivers(t, n, 1, 2, i-n.Many()+1)
		}
		if n.Many() > 30 {
			n.Take(2)
		}
	}
	if sent != 400 {
		t.Error("lost")
	}
}

package world

import (
	"slices"

	"watershed/act"
	"watershed/api"
	"watershed/node"
)

const mostRounds = 2000

func isClient(n int) bool { return n >= 1 && n <= api.MaxClients }

func (w *World) call(x Step) api.Errno {
	if !isClient(x.Client) || !act.Right(x.Acts...) {
		return api.ErrArg
	}
	n := w.up(x.Node)
	if n == nil {
		return api.ErrNone
	}
	c := &w.clients[x.Client]
	name := api.Name{Client: x.Client, Num: c.last + 1}
	out, err := n.Call(name, x.Acts...)
	if err != api.OK {
		return err
	}
	c.last, c.acts = name.Num, slices.Clone(x.Acts)
	w.open = append(w.open, name)
	w.put(Tale{Kind: Called, Name: name, Acts: slices.Clone(x.Acts)})
	w.tell(x.Node, out)
	return api.OK
}

func (w *World) again(x Step) api.Errno {
	if !isClient(x.Client) {
		return api.ErrArg
	}
	c, n := w.clients[x.Client], w.up(x.Node)
	if c.last == 0 || n == nil {
		return api.ErrNone
	}
	return w.told(x.Node)(n.Call(api.Name{Client: x.Client, Num: c.last}, c.acts...))
}

func (w *World) handoff(x Step) api.Errno {
	if !w.seated(x.Group) {
		return api.ErrArg
	}
	n := w.up(x.Node)
	if n == nil {
		return api.ErrNone
	}
	return w.told(x.Node)(n.Handoff(x.Span, x.Group))
}

func (w *World) change(x Step) api.Errno {
	if slices.ContainsFunc(x.Want, func(n int) bool { return w.place(n) == nil }) {
		return api.ErrArg
	}
	n := w.up(x.Node)
	if n == nil {
		return api.ErrNone
	}
	return w.told(x.Node)(n.Change(x.Group, x.Want...))
}

func (w *World) compact(x Step) api.Errno {
	n := w.up(x.Node)
	if n == nil {
		return api.ErrNone
	}
	return n.Compact(x.Group)
}

func (w *World) deliver(x Step) api.Errno {
	l, is := w.net.Deliver(x.Node, x.To)
	if !is {
		return api.ErrNone
	}
	w.give(x.To, l)
	return api.OK
}

// give gives a letter to the node of a place, if that is up.
func (w *World) give(to int, l api.Letter) {
	if n := w.up(to); n != nil {
		w.tell(to, n.Letter(l))
	}
}

func is(did bool) api.Errno {
	if did {
		return api.OK
	}
	return api.ErrNone
}

func (w *World) lose(x Step) api.Errno { return is(w.net.Lose(x.Node, x.To)) }

func (w *World) twice(x Step) api.Errno { return is(w.net.Twice(x.Node, x.To)) }

func (w *World) forward(x Step) api.Errno { return is(w.net.Forward(x.Node, x.To)) }

func (w *World) tick(x Step) api.Errno {
	n := w.up(x.Node)
	if n == nil {
		return api.ErrNone
	}
	w.tell(x.Node, n.Tick(x.Num))
	return api.OK
}

func (w *World) crash(x Step) api.Errno {
	if w.up(x.Node) == nil {
		return api.ErrNone
	}
	p := w.place(x.Node)
	p.node = nil
	p.Crash(x.Num)
	return api.OK
}

func (w *World) start(x Step) api.Errno {
	if w.place(x.Node) == nil {
		return api.ErrArg
	}
	if w.up(x.Node) != nil {
		return api.ErrThere
	}
	return w.begin(x.Node)
}

func (w *World) calm(x Step) api.Errno {
	if x.Num < 0 || x.Num > mostRounds {
		return api.ErrArg
	}
	for n := range w.places {
		if w.up(n+1) == nil {
			w.begin(n + 1) // one that can't stays down
		}
	}
	for range x.Num {
		w.round()
	}
	return api.OK
}

// round lets all letters come that wait, and all nodes tick.
func (w *World) round() {
	var bags [api.MaxNodes + 1][]api.Letter
	for to := 1; to <= api.MaxNodes; to++ {
		bags[to] = w.net.Take(to)
	}
	for to, bag := range bags {
		for _, l := range bag {
			w.give(to, l)
		}
	}
	for i, p := range w.places {
		if p.node != nil {
			w.tell(i+1, p.node.Tick(2*i))
		}
	}
}

// told tells what a node's call tells, if it has no error.
func (w *World) told(n int) func(node.Out, api.Errno) api.Errno {
	return func(out node.Out, err api.Errno) api.Errno {
		if err == api.OK {
			w.tell(n, out)
		}
		return err
	}
}

package clerk

import (
	"slices"

	"watershed/act"
	"watershed/api"
	"watershed/order"
	"watershed/registry"
)

// work is an answer at work: on which line it came, and what it brings.
type work struct {
	*Clerk
	task    *task
	on      *line
	part    *part // nil of a task's own line
	answer  order.Answer
	asks    []Ask
	replies []Reply
}

// Answer takes an answer to what was asked.
func (c *Clerk) Answer(tag int, a order.Answer) ([]Ask, []Reply) {
	if c.none() {
		return nil, nil
	}
	w := c.find(tag)
	if w == nil {
		return nil, nil
	}
	w.answer = a
	kinds := map[order.Kind]func(){
		order.Look:    w.looked,
		order.Ask:     w.routed,
		order.Prepare: w.prepared,
		order.Decide:  w.decided,
		order.Finish:  w.finished,
	}
	kinds[w.on.Order.Kind]()
	return w.asks, w.replies
}

// find tells the line that is not idle and has the tag.
func (c *Clerk) find(tag int) *work {
	for _, t := range c.tasks {
		for i, l := range t.lines() {
			if !l.busy || l.Tag != tag {
				continue
			}
			w := &work{Clerk: c, task: t, on: l}
			if i > 0 {
				w.part = t.parts[i-1]
			}
			return w
		}
	}
	return nil
}

func (w *work) good() bool { return w.answer.Err == api.OK }

// order asks an order on a line.
func (w *work) order(l *line, group int, x order.Order) { w.asks = append(w.asks, w.ask(l, group, x)) }

func (w *work) reply() {
	w.replies = append(w.replies, Reply{w.task.name, w.answer.Commit, slices.Clone(w.answer.Reads)})
}

// gone takes the task away.
func (w *work) gone() {
	w.tasks = slices.DeleteFunc(w.tasks, func(t *task) bool { return t == w.task })
}

func (w *work) looked() {
	switch {
	case !w.good():
	case w.answer.Is:
		w.reply()
		w.gone()
	case w.knows:
		w.prepare()
	default:
		w.order(&w.task.line, 0, order.Order{Kind: order.Ask})
	}
}

func (w *work) routed() {
	s, _, _, ok := registry.ReadView(w.answer.Bytes)
	if w.good() && ok {
		w.shares, w.knows = s, true
		w.prepare()
	}
}

// prepare lets the call prepare in all its groups.
func (w *work) prepare() {
	w.task.rest()
	w.task.parts = partsOf(w.shares, w.task.acts)
	for _, p := range w.task.parts {
		w.prepareAt(p)
	}
}

func (w *work) prepareAt(p *part) {
	w.order(&p.line, p.group, order.Order{Kind: order.Prepare, Name: w.task.name, Epoch: p.epoch, Acts: slices.Clone(p.acts)})
}

// decide lets the call be decided, with its reads, if it is to be committed.
func (w *work) decide(commit bool) {
	x := order.Order{Kind: order.Decide, Name: w.task.name, Commit: commit}
	if commit {
		x.Reads = w.task.reads()
	}
	w.order(&w.task.line, 0, x)
}

// reads is what the parts told of each get and add, in the order of the call's acts.
func (t *task) reads() []api.Read {
	left := map[string][]api.Read{}
	for _, p := range t.parts {
		i := 0
		for _, a := range p.acts {
			if a.Kind != api.ActPut && i < len(p.reads) {
				left[a.Key] = append(left[a.Key], p.reads[i])
				i++
			}
		}
	}
	var l []api.Read
	for _, a := range t.acts {
		if a.Kind != api.ActPut && len(left[a.Key]) > 0 {
			l = append(l, left[a.Key][0])
			left[a.Key] = left[a.Key][1:]
		}
	}
	return l
}

func (w *work) prepared() {
	switch w.answer.Err {
	case api.OK:
		w.part.holds, w.part.reads = true, slices.Clone(w.answer.Reads)
		w.part.rest()
		if !slices.ContainsFunc(w.task.parts, func(p *part) bool { return !p.holds }) {
			w.decide(true)
		}
	case api.ErrBusy:
		if other := w.answer.Name; act.Name(other) && act.Older(w.task.name, other) {
			w.order(w.on, 0, order.Order{Kind: order.Decide, Name: other})
		} else {
			w.on.since = 0
		}
	default:
		for _, p := range w.task.parts {
			p.rest()
		}
		w.decide(false)
		if w.answer.Err == api.ErrEpoch {
			w.shares, w.knows = api.Shares{}, false
		}
	}
}

func (w *work) finish(l *line, group int, n api.Name) {
	w.order(l, group, order.Order{Kind: order.Finish, Name: n, Commit: w.answer.Commit})
}

func (w *work) decided() {
	switch {
	case !w.good():
	case w.part != nil:
		w.finish(w.on, w.part.group, w.on.Order.Name)
	case w.task.sweep > 0:
		w.finish(w.on, w.task.sweep, w.task.name)
	default:
		w.reply()
		w.task.rest()
		for _, p := range w.task.parts {
			w.finish(&p.line, p.group, w.task.name)
		}
		w.goneIfIdle()
	}
}

// goneIfIdle takes the call away, if all its parts are idle.
func (w *work) goneIfIdle() {
	if !slices.ContainsFunc(w.task.parts, func(p *part) bool { return p.busy }) {
		w.gone()
	}
}

func (w *work) finished() {
	switch {
	case w.part != nil && w.on.Order.Name != w.task.name:
		w.prepareAt(w.part)
	case w.answer.Err == api.ErrFrozen:
		w.on.since = 0
	case w.part != nil:
		w.on.rest()
		w.goneIfIdle()
	default:
		w.gone()
	}
}

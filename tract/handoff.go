package tract

import (
	"slices"

	"watershed/api"
	"watershed/span"
	"watershed/wire"
)

// begins tells the error of a handoff's call, and whether nothing more is to be done.
func (t *Tract) begins(scheme int, s api.Span, epoch int) (api.Errno, bool) {
	if t.none() {
		return api.ErrNil, true
	}
	if !upTo(api.MaxNum, scheme) || !span.Right(s) || !upTo(api.MaxEpoch, epoch) {
		return api.ErrArg, true
	}
	return api.OK, scheme <= t.ended
}

// closed tells the place of the closed stretch; -1, if there is none.
func (t *Tract) closed() int {
	return t.find(func(x api.Stretch) bool { return x.State == api.StretchClosed })
}

// closedBy tells the place of the stretch that the handoff closed; -1, if there is none.
func (t *Tract) closedBy(scheme int) int {
	return t.find(func(x api.Stretch) bool { return x.State == api.StretchClosed && x.Scheme == scheme })
}

// Freeze closes a span for a handoff, and tells what stands there.
func (t *Tract) Freeze(scheme int, s api.Span, epoch int) ([]byte, api.Errno) {
	if err, over := t.begins(scheme, s, epoch); over {
		return nil, err
	}
	if i := t.closedBy(scheme); i >= 0 {
		return t.in(t.stretches[i].Span).bytes(), api.OK
	}
	if t.closed() >= 0 {
		return nil, api.ErrScheme
	}
	i := t.find(func(x api.Stretch) bool {
		return x.State == api.StretchOpen && x.Epoch == epoch && span.Within(s, x.Span)
	})
	if i < 0 {
		return nil, api.ErrEpoch
	}
	var parts []api.Stretch
	for _, p := range span.Cut(t.stretches[i].Span, s.Lo, s.Hi) {
		x := api.Stretch{Span: p, Epoch: epoch, State: api.StretchOpen}
		if p == s {
			x.State, x.Scheme = api.StretchClosed, scheme
		}
		parts = append(parts, x)
	}
	t.stretches = slices.Replace(t.stretches, i, i+1, parts...)
	return t.in(s).bytes(), api.OK
}

// join makes the stretch at a place, and the one behind it, one, if both are open, of one epoch, and neighbours.
func (t *Tract) join(i int) {
	if i < 0 || i+1 >= len(t.stretches) {
		return
	}
	a, b := t.stretches[i], t.stretches[i+1]
	if a.State == api.StretchOpen && b.State == api.StretchOpen && a.Epoch == b.Epoch && a.Span.Hi == b.Span.Lo {
		a.Span.Hi = b.Span.Hi
		t.stretches = slices.Replace(t.stretches, i, i+2, a)
	}
}

// Thaw opens again what the handoff closed.
func (t *Tract) Thaw(scheme int) api.Errno {
	if err, over := t.begins(scheme, span.All(), 1); over {
		return err
	}
	if i := t.closedBy(scheme); i >= 0 {
		t.stretches[i].State, t.stretches[i].Scheme = api.StretchOpen, 0
		t.join(i)
		t.join(i - 1)
	}
	t.ended = scheme
	return api.OK
}

// Absorb takes what a handoff brings, which is not in force yet.
func (t *Tract) Absorb(scheme int, s api.Span, b []byte) api.Errno {
	if err, over := t.begins(scheme, s, 1); over {
		return err
	}
	if t.cargo != nil {
		if t.cargo.scheme != scheme {
			return api.ErrScheme
		}
		return api.OK
	}
	c, ok := readCargo(scheme, s, b)
	if !ok {
		return api.ErrShape
	}
	if t.meets(s) {
		return api.ErrThere
	}
	if !room(t.tables, c) {
		return api.ErrFull
	}
	t.cargo = c
	return api.OK
}

func (t *Tract) meets(s api.Span) bool {
	return t.find(func(x api.Stretch) bool {
		_, both := span.Meet(x.Span, s)
		return both
	}) >= 0
}

func (t *Tract) carries(scheme int) bool { return t.cargo != nil && t.cargo.scheme == scheme }

// Open lays what a handoff brought into force.
func (t *Tract) Open(scheme, epoch int) api.Errno {
	if err, over := t.begins(scheme, span.All(), epoch); over {
		return err
	}
	if !t.carries(scheme) {
		return api.ErrScheme
	}
	c := t.cargo
	t.merge(c.tables)
	i := t.find(func(x api.Stretch) bool { return x.Span.Lo > c.span.Lo })
	if i < 0 {
		i = len(t.stretches)
	}
	t.stretches = slices.Insert(t.stretches, i, api.Stretch{Span: c.span, Epoch: epoch, State: api.StretchOpen})
	t.cargo, t.ended = nil, scheme
	return api.OK
}

// Drop takes away what the handoff closed.
func (t *Tract) Drop(scheme int) api.Errno {
	if err, over := t.begins(scheme, span.All(), 1); over {
		return err
	}
	i := t.closedBy(scheme)
	if i < 0 {
		return api.ErrScheme
	}
	t.drop(t.stretches[i].Span)
	t.stretches = slices.Delete(t.stretches, i, i+1)
	t.ended = scheme
	return api.OK
}

// Forget takes away what the handoff brought.
func (t *Tract) Forget(scheme int) api.Errno {
	if err, over := t.begins(scheme, span.All(), 1); over {
		return err
	}
	if t.carries(scheme) {
		t.cargo = nil
	}
	t.ended = scheme
	return api.OK
}

// Write puts the tract as bytes behind what was written.
func (t *Tract) Write(w *wire.Writer) *wire.Writer {
	if t.none() {
		return w
	}
	w.Numbers(len(t.stretches))
	for _, x := range t.stretches {
		w.Texts(x.Span.Lo, x.Span.Hi).Numbers(x.Epoch, int(x.State), x.Scheme)
	}
	t.write(w).Numbers(t.ended).Flags(t.cargo != nil)
	if c := t.cargo; c != nil {
		w.Numbers(c.scheme).Texts(c.span.Lo, c.span.Hi).Rows(c.bytes())
	}
	return w
}

func readSpan(r *wire.Reader) api.Span {
	return api.Span{Lo: r.Text(api.MaxKey), Hi: r.Text(api.MaxKey)}
}

// readStretches is right stretches, of which one at most is closed.
func readStretches(r *wire.Reader) ([]api.Stretch, bool) {
	var l []api.Stretch
	closed := 0
	for range r.Number(api.MaxRows) {
		x := api.Stretch{Span: readSpan(r), Epoch: r.Number(api.MaxEpoch), State: api.StretchState(r.Number(int(api.StretchClosed))), Scheme: r.Number(api.MaxNum)}
		if x.State == 0 || (x.State == api.StretchClosed) != (x.Scheme > 0) {
			return nil, false
		}
		if x.State == api.StretchClosed {
			closed++
		}
		l = append(l, x)
	}
	return l, closed <= 1 && rising(l)
}

// mostCargo is more bytes than a cargo can have.
const mostCargo = 1 << 20

// readAboard is the cargo of the tract, if it has one.
func (t *Tract) readAboard(r *wire.Reader) bool {
	if !r.Flag() {
		return true
	}
	scheme, s := r.Number(api.MaxNum), readSpan(r)
	c, ok := readCargo(scheme, s, r.Row(mostCargo))
	t.cargo = c
	return ok && scheme >= 1 && span.Right(s) && !t.meets(s)
}

// Read is the tract that is read here.
func Read(r *wire.Reader) (*Tract, bool) {
	l, ok := readStretches(r)
	if !ok {
		return nil, false
	}
	t := &Tract{stretches: l, made: true}
	if t.tables, ok = readTables(r); !ok {
		return nil, false
	}
	t.ended = r.Number(api.MaxNum)
	if !t.readAboard(r) || r.Left() == 0 && r.End() != api.OK {
		return nil, false
	}
	in := func(key string) bool {
		return t.find(func(x api.Stretch) bool { return span.Has(x.Span, key) }) >= 0
	}
	if !t.within(in) || !room(t.tables, t.cargo) {
		return nil, false
	}
	return t, true
}

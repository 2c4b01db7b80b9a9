package registry

import (
	"watershed/api"
	"watershed/ruling"
	"watershed/scheme"
	"watershed/shares"
	"watershed/wire"
)

func (r *Registry) writeView(w *wire.Writer) *wire.Writer {
	w.Numbers(r.shares.Epoch, len(r.shares.List))
	for _, x := range r.shares.List {
		w.Texts(x.Span.Lo, x.Span.Hi).Numbers(x.Group, x.Epoch)
	}
	w.Flags(r.under())
	if r.under() {
		scheme.Write(w, r.way)
	}
	return w
}

// View is what others may know: the shares, and the handoff under way.
func (r *Registry) View() []byte {
	if r.none() {
		return nil
	}
	b, _ := r.writeView(wire.NewWriter()).Done()
	return b
}

// Write puts the registry as bytes behind what was written.
func (r *Registry) Write(w *wire.Writer) *wire.Writer {
	if r.none() {
		return w
	}
	return r.book.Write(r.writeView(w).Numbers(r.last))
}

// try does one behind the other, up to the first that fails.
func try(steps ...func() bool) bool {
	for _, step := range steps {
		if !step() {
			return false
		}
	}
	return true
}

func sound(r *wire.Reader) bool { return r.Left() > 0 || r.End() == api.OK }

func readShares(r *wire.Reader) (api.Shares, bool) {
	s := api.Shares{Epoch: r.Number(api.MaxEpoch)}
	for range r.Number(api.MaxShares) {
		s.List = append(s.List, api.Share{
			Span:  api.Span{Lo: r.Text(api.MaxKey), Hi: r.Text(api.MaxKey)},
			Group: r.Number(api.MaxGroups), Epoch: r.Number(api.MaxEpoch),
		})
	}
	return s, shares.Right(s)
}

// view is what a view says.
type view struct {
	shares api.Shares
	way    api.Scheme
	under  bool
}

func readView(r *wire.Reader) (v view, ok bool) {
	ok = try(
		func() bool { v.shares, ok = readShares(r); return ok },
		func() bool { v.under = r.Flag(); return sound(r) },
		func() bool {
			if !v.under {
				return true
			}
			v.way, ok = scheme.Read(r)
			return ok && !scheme.Over(v.way)
		},
	)
	return v, ok
}

// ReadView is what a view says.
func ReadView(b []byte) (s api.Shares, x api.Scheme, under, ok bool) {
	r := wire.NewReader(b)
	v, ok := readView(r)
	if !ok || r.End() != api.OK {
		return api.Shares{}, api.Scheme{}, false, false
	}
	return v.shares, v.way, v.under, true
}

// Read is the registry that is read here.
func Read(r *wire.Reader) (*Registry, bool) {
	g := &Registry{}
	ok := try(
		func() bool {
			v, ok := readView(r)
			g.shares, g.way = v.shares, v.way
			return ok
		},
		func() bool {
			g.last = r.Number(api.MaxNum)
			return !g.under() || g.way.Num == g.last
		},
		func() bool {
			b, ok := ruling.Read(r)
			g.book = b
			return ok
		},
	)
	if !ok {
		return nil, false
	}
	return g, true
}

package tract

import (
	"slices"

	"watershed/api"
	"watershed/holds"
	"watershed/past"
	"watershed/rows"
	"watershed/span"
	"watershed/wire"
)

// tables is what stands in stretches.
type tables struct {
	rows  *rows.Rows
	holds *holds.Holds
	past  *past.Past
}

func empty() tables { return tables{rows.New(), holds.New(), past.New()} }

func (t tables) copied() tables { return tables{t.rows.Copy(), t.holds.Copy(), t.past.Copy()} }

// in is what stands in a span, with the past.
func (t tables) in(s api.Span) tables {
	part := empty()
	part.lay(t.rows.In(s), t.holds.In(s))
	part.past.Merge(t.past)
	return part
}

func (t tables) lay(r []api.Row, h []api.Hold) {
	t.rows.Put(r...)
	t.holds.Put(h...)
}

// merge lays another one's rows and holds beside these.
func (t tables) merge(other tables) {
	t.lay(other.rows.In(span.All()), other.holds.In(span.All()))
	t.past.Merge(other.past)
}

// drop takes what stands in a span.
func (t tables) drop(s api.Span) {
	t.rows.Take(s)
	t.holds.Take(s)
}

func (t tables) all() []api.Hold { return t.holds.In(span.All()) }

// coming is how many rows there are, with those that holds will put.
func (t tables) coming() int {
	n := t.rows.Many()
	for _, h := range t.all() {
		if _, is := t.rows.Get(h.Key); h.Put && !is {
			n++
		}
	}
	return n
}

// within tells whether all keys are meant.
func (t tables) within(meant func(key string) bool) bool {
	return !slices.ContainsFunc(t.rows.In(span.All()), func(r api.Row) bool { return !meant(r.Key) }) &&
		!slices.ContainsFunc(t.all(), func(h api.Hold) bool { return !meant(h.Key) })
}

func (t tables) write(w *wire.Writer) *wire.Writer {
	rows.Write(w, t.rows.In(span.All())...)
	holds.Write(w, t.all()...)
	return t.past.Write(w)
}

func (t tables) bytes() []byte {
	b, _ := t.write(wire.NewWriter()).Done()
	return b
}

func readTables(r *wire.Reader) (tables, bool) {
	t := empty()
	l, rowsOk := rows.Read(r)
	h, holdsOk := holds.Read(r)
	p, pastOk := past.Read(r)
	if !rowsOk || !holdsOk || !pastOk {
		return tables{}, false
	}
	t.lay(l, h)
	t.past = p
	return t, true
}

// cargo is what came by a handoff, not in force yet.
type cargo struct {
	tables
	scheme int
	span   api.Span
}

// readCargo is the right cargo of a span whose bytes b is.
func readCargo(scheme int, s api.Span, b []byte) (*cargo, bool) {
	r := wire.NewReader(b)
	t, ok := readTables(r)
	if !ok || r.End() != api.OK || !t.within(func(key string) bool { return span.Has(s, key) }) {
		return nil, false
	}
	return &cargo{t, scheme, s}, true
}

// room tells whether both have room together.
func room(t tables, c *cargo) bool {
	rows, many := t.coming(), t.holds.Many()
	if c != nil {
		rows, many = rows+c.coming(), many+c.holds.Many()
	}
	return rows <= api.MaxRows && many <= api.MaxHolds
}

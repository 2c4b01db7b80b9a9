package journal

import (
	"watershed/api"
	"watershed/wire"
)

func row(l []int) bool {
	last := 0
	for _, n := range l {
		if n <= last || n > api.MaxNodes {
			return false
		}
		last = n
	}
	return true
}

// Config tells whether c is right.
func Config(c api.Config) bool {
	return row(c.Voters) && row(c.Old) && row(c.Learners) && row(c.Want)
}

func noConfig(c api.Config) bool {
	return len(c.Voters)+len(c.Old)+len(c.Learners)+len(c.Want) == 0
}

// Entry tells whether e is right.
func Entry(e api.Entry) bool {
	if e.Term < 0 || e.Term > api.MaxTerm {
		return false
	}
	switch e.Kind {
	case api.EntryNothing:
		return len(e.Command) == 0 && noConfig(e.Config)
	case api.EntryCommand:
		return len(e.Command) <= api.MaxCommand && noConfig(e.Config)
	case api.EntryConfig:
		return len(e.Command) == 0 && Config(e.Config)
	}
	return false
}

func base(b api.Base) bool {
	return b.Index >= 0 && b.Index <= api.MaxIndex && b.Term >= 0 && b.Term <= api.MaxTerm && Config(b.Config)
}

func writeRow(w *wire.Writer, l []int) { w.Numbers(len(l)).Numbers(l...) }

func writeConfig(w *wire.Writer, c api.Config) {
	writeRow(w, c.Voters)
	writeRow(w, c.Old)
	writeRow(w, c.Learners)
	writeRow(w, c.Want)
}

// Write puts entries as bytes behind what was written.
func Write(w *wire.Writer, l ...api.Entry) *wire.Writer {
	for _, e := range l {
		w.Numbers(e.Term, int(e.Kind)).Rows(e.Command)
		writeConfig(w, e.Config)
	}
	return w
}

// WriteBase puts a base as bytes behind what was written.
func WriteBase(w *wire.Writer, b api.Base) *wire.Writer {
	w.Numbers(b.Index, b.Term)
	writeConfig(w, b.Config)
	return w
}

// sound tells whether nothing that was read failed.
func sound(r *wire.Reader) bool { return r.Left() > 0 || r.End() == api.OK }

func readRow(r *wire.Reader) []int {
	var l []int
	for range r.Number(api.MaxNodes) {
		l = append(l, r.Number(api.MaxNodes))
	}
	return l
}

func readConfig(r *wire.Reader) api.Config {
	return api.Config{Voters: readRow(r), Old: readRow(r), Learners: readRow(r), Want: readRow(r)}
}

// Read is the right entry that is read here.
func Read(r *wire.Reader) (api.Entry, bool) {
	e := api.Entry{
		Term:    r.Number(api.MaxTerm),
		Kind:    api.EntryKind(r.Number(int(api.EntryConfig))),
		Command: r.Row(api.MaxCommand),
		Config:  readConfig(r),
	}
	if !sound(r) || !Entry(e) {
		return api.Entry{}, false
	}
	return e, true
}

// ReadBase is the right base that is read here.
func ReadBase(r *wire.Reader) (api.Base, bool) {
	b := api.Base{Index: r.Number(api.MaxIndex), Term: r.Number(api.MaxTerm), Config: readConfig(r)}
	if !sound(r) || !base(b) {
		return api.Base{}, false
	}
	return b, true
}

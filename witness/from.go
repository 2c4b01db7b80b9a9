package witness

import (
	"cmp"
	"slices"

	"watershed/api"
	"watershed/world"
)

// record is what was told of a name.
type record struct {
	name             api.Name
	called, answered int // places in the history, from 1 on; 0: none
	acts             []api.Act
	decided          bool
	index            int // the least one at which it was decided
	commit           bool
	reads            []api.Read
	spoilt           bool // it was decided in two ways
}

// records is what was told of all names.
type records map[api.Name]*record

func (l records) of(n api.Name) *record {
	if l[n] == nil {
		l[n] = &record{name: n}
	}
	return l[n]
}

// note notes the tale at a place.
func (l records) note(at int, t world.Tale) {
	switch t.Kind {
	case world.Called:
		if r := l.of(t.Name); r.called == 0 {
			r.called, r.acts = at, t.Acts
		}
	case world.Replied:
		if r := l.of(t.Name); r.answered == 0 {
			r.answered = at
		}
	case world.Decided:
		l.of(t.Name).decide(t)
	}
}

func (r *record) decide(t world.Tale) {
	if !r.decided {
		r.decided, r.index, r.commit, r.reads = true, t.Index, t.Commit, t.Reads
		return
	}
	r.spoilt = r.spoilt || r.commit != t.Commit || !slices.Equal(r.reads, t.Reads)
	r.index = min(r.index, t.Index)
}

// fair tells whether what a client was replied is what was decided.
func (l records) fair(t world.Tale) bool {
	r := l.of(t.Name)
	return r.decided && r.commit == t.Commit && (!r.commit || slices.Equal(r.reads, t.Reads))
}

// From is the committed steps of a history, in the order in which they were decided.
func From(l ...world.Tale) ([]Step, bool) {
	all := records{}
	for i, t := range l {
		all.note(i+1, t)
	}
	if slices.ContainsFunc(l, func(t world.Tale) bool { return t.Kind == world.Replied && !all.fair(t) }) {
		return nil, false
	}
	var decided []*record
	for _, r := range all {
		if r.spoilt || r.commit && r.called == 0 {
			return nil, false
		}
		if r.decided {
			decided = append(decided, r)
		}
	}
	slices.SortFunc(decided, func(a, b *record) int { return cmp.Compare(a.index, b.index) })
	var steps []Step
	for i, r := range decided {
		if i > 0 && decided[i-1].index == r.index {
			return nil, false
		}
		if r.commit {
			steps = append(steps, Step{r.name, slices.Clone(r.acts), slices.Clone(r.reads), r.called, r.answered})
		}
	}
	return steps, true
}

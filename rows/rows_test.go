package rows_test

import (
	"bytes"
	"fmt"
	"slices"
	"strings"
	"testing"

	"watershed/api"
	. "watershed/rows"
	"watershed/span"
	"watershed/wire"
)

func row(key, value string) api.Row { return api.Row{Key: key, Value: value} }

func of(t *testing.T, l ...api.Row) *Rows {
	t.Helper()
	r := New()
	if err := r.Put(l...); err != api.OK {
		t.Fatalf("put: %d", err)
	}
	return r
}

func is(t *testing.T, r *Rows, want ...api.Row) {
	t.Helper()
	if got := r.In(span.All()); !slices.Equal(got, want) || r.Many() != len(want) {
		t.Errorf("%v, not %v", got, want)
	}
}

func many(n int) []api.Row {
	var l []api.Row
	for i := range n {
		l = append(l, row(fmt.Sprintf("k%03d", i), "v"))
	}
	return l
}

func TestTable(t *testing.T) { // P15.1
	is(t, New())
	r := of(t, row("b", "1"), row("a", "2"), row("b", "3"))
	is(t, r, row("a", "2"), row("b", "3"))
	for key, want := range map[string]string{"a": "2", "b": "3"} {
		if v, ok := r.Get(key); !ok || v != want {
			t.Errorf("%q: %q", key, v)
		}
	}
	for _, key := range []string{"", "aa", "c", "A"} {
		if v, ok := r.Get(key); ok || v != "" {
			t.Errorf("%q: %q", key, v)
		}
	}
	c := r.Copy()
	c.Put(row("c", ""), row("a", "9"))
	is(t, r, row("a", "2"), row("b", "3"))
	r.Take(span.All())
	is(t, c, row("a", "9"), row("b", "3"), row("c", ""))
}

func TestInAndTake(t *testing.T) { // P15.1
	all := []api.Row{row("a", "1"), row("aa", "2"), row("b", "3"), row("c", "4")}
	for _, c := range []struct {
		s        api.Span
		from, to int
	}{{api.Span{}, 0, 4}, {api.Span{Lo: "a", Hi: "b"}, 0, 2}, {api.Span{Lo: "aa"}, 1, 4}, {api.Span{Hi: "aa"}, 0, 1}, {api.Span{Lo: "b", Hi: "c"}, 2, 3}, {api.Span{Lo: "d"}, 4, 4}, {api.Span{Lo: "c", Hi: "b"}, 0, 0}, {api.Span{Lo: "A"}, 0, 0}} {
		r := of(t, all...)
		if got := r.In(c.s); !slices.Equal(got, all[c.from:c.to]) {
			t.Errorf("%v: %v", c.s, got)
		}
		is(t, r, all...)
		if got := r.Take(c.s); !slices.Equal(got, all[c.from:c.to]) {
			t.Errorf("%v: %v", c.s, got)
		}
		is(t, r, slices.Concat(all[:c.from], all[c.to:])...)
	}
}

func TestPut(t *testing.T) { // P15.2
	long := strings.Repeat("v", 20)
	r := of(t, row("a", "1"), row(strings.Repeat("k", 20), long), row("b", "\x00 any bytes"))
	was := r.In(span.All())
	for i, l := range [][]api.Row{{row("", "1")}, {row("c", "1"), row("A", "1")}, {row(strings.Repeat("k", 21), "")}, {row("d", long+"v")}} {
		if err := r.Put(l...); err != api.ErrArg {
			t.Errorf("%d: %d", i, err)
		}
		is(t, r, was...)
	}
	if r.Put() != api.OK {
		t.Error("of none")
	}
	full := of(t, many(400)...)
	if full.Put(row("a", "1")) != api.ErrFull || full.Put(row("k000", "x"), row("k399", "y"), row("z", "")) != api.ErrFull || full.Put(row("", ""), row("a", "1")) != api.ErrArg {
		t.Error("a full table")
	}
	is(t, full, many(400)...)
	if full.Put(row("k000", "x"), row("k000", "y")) != api.OK || New().Put(many(401)...) != api.ErrFull {
		t.Error("in the place of one that is there")
	}
	if v, _ := full.Get("k000"); v != "y" {
		t.Error("in order")
	}
	again := of(t, many(399)...)
	if again.Put(row("a", "1"), row("a", "2"), row("a", "3")) != api.OK || again.Many() != 400 {
		t.Error("three times one row")
	}
}

func TestWriteAndRead(t *testing.T) { // P15.3
	w := wire.NewWriter().Numbers(7)
	if Write(w, row("a", "xy"), row("b", "")) != w || Write(nil) != nil {
		t.Error("another writer")
	}
	b, _ := w.Done()
	if !bytes.Equal(b, []byte{7, 2, 1, 97, 2, 120, 121, 1, 98, 0}) {
		t.Errorf("%v", b)
	}
	r := wire.NewReader(append(b[1:], 9))
	if l, ok := Read(r); !ok || !slices.Equal(l, []api.Row{row("a", "xy"), row("b", "")}) || r.Left() != 1 {
		t.Errorf("%v", l)
	}
	for _, n := range []int{0, 400} {
		b, _ := Write(wire.NewWriter(), many(n)...).Done()
		if l, ok := Read(wire.NewReader(b)); !ok || !slices.Equal(l, many(n)) {
			t.Errorf("%d rows", n)
		}
		if l, ok := Read(wire.NewReader(b[:len(b)-1])); ok || len(l) > 0 {
			t.Errorf("%d rows, cut", n)
		}
	}
	for i, l := range [][]api.Row{many(401), {row("b", ""), row("a", "")}, {row("a", ""), row("a", "")}, {row("", "")}, {row("A", "")}, {row("a", strings.Repeat("v", 21))}, {row(strings.Repeat("k", 21), "")}} {
		b, _ := Write(wire.NewWriter(), l...).Done()
		if got, ok := Read(wire.NewReader(append(b, 0, 0))); ok || len(got) > 0 {
			t.Errorf("%d: %v", i, got)
		}
	}
	if l, ok := Read(nil); ok || len(l) > 0 {
		t.Error("of no reader")
	}
}

func TestNone(t *testing.T) { // P15.4
	for _, r := range []*Rows{nil, {}} {
		v, ok := r.Get("a")
		if r.Copy() != nil || r.Many() != 0 || v != "" || ok || r.Put(row("", "")) != api.ErrNil || len(r.In(span.All())) > 0 || len(r.Take(span.All())) > 0 {
			t.Error("a table that is none")
		}
	}
}

func TestFollows(t *testing.T) { // P15.5
	all := many(30)
	for lo := range 30 {
		r := of(t, all...)
		s := api.Span{Lo: all[lo].Key, Hi: "k020"}
		l := r.Take(s)
		if r.Put(l...) != api.OK {
			t.Error("put back")
		}
		is(t, r, all...)
		var parts []api.Row
		for _, s := range span.Cut(span.All(), all[lo].Key, "k011", "k02") {
			parts = append(parts, r.In(s)...)
		}
		if !slices.Equal(parts, all) {
			t.Errorf("%v", parts)
		}
	}
}

package ruling_test

import (
	"bytes"
	"reflect"
	"slices"
	"strings"
	"testing"

	"watershed/api"
	. "watershed/ruling"
	"watershed/wire"
)

func name(client, num int) api.Name { return api.Name{Client: client, Num: num} }

func yes(client, num, at int, keys ...string) Verdict {
	x := Verdict{Name: name(client, num), Commit: true, At: at}
	for _, k := range keys {
		x.Reads = append(x.Reads, api.Read{Key: k, Is: k > "b", Value: strings.Repeat("v", len(k)-1)})
	}
	return x
}

func no(client, num, at int) Verdict { return Verdict{Name: name(client, num), At: at} }

func same(a, b []Verdict) bool { return len(a) == len(b) && (len(a) == 0 || reflect.DeepEqual(a, b)) }

func of(t *testing.T, l ...Verdict) *Book {
	t.Helper()
	b := New()
	for _, x := range l {
		if got, err := b.Decide(x); err != api.OK || !reflect.DeepEqual(got, x) {
			t.Fatalf("%v: %v, %d", x, got, err)
		}
	}
	return b
}

func wrong() []Verdict {
	read := func(r api.Read) Verdict {
		return Verdict{Name: name(1, 1), Commit: true, At: 1, Reads: []api.Read{{Key: "a"}, r}}
	}
	seven := yes(1, 1, 1, "a", "a", "a", "a", "a", "a", "a")
	lost := yes(1, 1, 1, "a")
	lost.Commit = false
	return []Verdict{{}, no(0, 1, 1), no(9, 1, 1), no(1, 0, 1), no(1, api.MaxNum+1, 1), no(1, 1, 0), no(1, 1, -1), no(1, 1, 1<<30+1), read(api.Read{}), read(api.Read{Key: "A"}),
		read(api.Read{Key: "a", Value: "x"}), read(api.Read{Key: "a", Is: true, Value: strings.Repeat("v", 21)}), seven, lost}
}

func TestRight(t *testing.T) { // P19.1
	if !Right() || !Right(yes(1, 1, 1), no(8, api.MaxNum, 1<<30), yes(1, 1, 1, "a", "bb", "c", "d", "e", "f")) {
		t.Error("these are right")
	}
	if x := yes(1, 1, 1, strings.Repeat("k", 20)); !Right(x) || len(x.Reads[0].Value) != 19 {
		t.Error("a long key")
	}
	if !Right(Verdict{Name: name(1, 1), Commit: true, At: 1, Reads: []api.Read{{Key: "k", Is: true, Value: strings.Repeat("v", 20)}, {Key: "k", Is: true}}}) {
		t.Error("a long value")
	}
	for i, x := range wrong() {
		if Right(x) || Right(no(1, 1, 1), x) {
			t.Errorf("%d is right", i)
		}
	}
}

func TestBook(t *testing.T) { // P19.1
	l := []Verdict{yes(2, 1, 3, "a", "cc"), no(1, 9, 4), yes(1, 2, 9), no(3, 3, 20)}
	b := of(t, l...)
	if b.Many() != 4 || New().Many() != 0 || len(New().All()) > 0 {
		t.Error("many")
	}
	for _, x := range l {
		if got, is := b.Of(x.Name); !is || !reflect.DeepEqual(got, x) {
			t.Errorf("%v", got)
		}
	}
	if got, is := b.Of(name(2, 2)); is || !reflect.DeepEqual(got, Verdict{}) {
		t.Errorf("%v", got)
	}
	yess, nos := []Verdict{l[0], l[2]}, []Verdict{l[1], l[3]}
	if !same(b.All(), l) || !same(b.All(true), yess) || !same(b.All(false), nos) || !same(b.All(false, true), l) || !same(b.All(true, true), yess) {
		t.Error("all")
	}
	c := b.Copy()
	c.Decide(no(5, 5, 21))
	b.Decide(yes(5, 5, 22))
	if x, _ := c.Of(name(5, 5)); x.At != 21 || x.Commit || b.Many() != 5 || c.Many() != 5 {
		t.Error("a copy is another one")
	}
	if x, _ := b.Of(name(5, 5)); x.At != 22 {
		t.Error("a copy is another one")
	}
}

func TestDecide(t *testing.T) { // P19.2, P19.5
	b := of(t, yes(1, 1, 5, "a"))
	for _, x := range []Verdict{no(1, 1, 6), yes(1, 1, 7, "b"), no(1, 1, 1)} {
		if got, err := b.Decide(x); err != api.OK || !reflect.DeepEqual(got, yes(1, 1, 5, "a")) {
			t.Errorf("%v, %d", got, err)
		}
	}
	for i, x := range append(wrong(), no(1, 2, 5), no(1, 2, 4), Verdict{Name: name(1, 1), At: 0}) {
		if got, err := b.Decide(x); err != api.ErrArg || !reflect.DeepEqual(got, Verdict{}) || b.Many() != 1 {
			t.Errorf("%d: %v, %d", i, got, err)
		}
	}
	if got, err := b.Decide(no(1, 2, 6)); err != api.OK || !reflect.DeepEqual(got, no(1, 2, 6)) || b.Many() != 2 {
		t.Errorf("%v, %d", got, err)
	}
}

func TestWriteAndRead(t *testing.T) { // P19.3, P19.5
	w := wire.NewWriter().Numbers(7)
	if of(t, yes(1, 300, 2, "a", "cc"), no(2, 1, 3)).Write(w) != w || New().Write(nil) != nil {
		t.Error("another writer")
	}
	b, _ := w.Done()
	if !bytes.Equal(b, []byte{7, 2, 1, 172, 2, 2, 1, 2, 1, 'a', 0, 0, 2, 'c', 'c', 1, 1, 'v', 2, 1, 3, 0, 0}) {
		t.Errorf("%v", b)
	}
	r := wire.NewReader(append(slices.Clone(b[1:]), 9))
	x, ok := Read(r)
	if !ok || r.Left() != 1 || !same(x.All(), []Verdict{yes(1, 300, 2, "a", "cc"), no(2, 1, 3)}) {
		t.Fatal("read")
	}
	if _, err := x.Decide(no(3, 3, 3)); err != api.ErrArg {
		t.Error("goes on as it would")
	}
	if y, err := x.Decide(no(1, 300, 9)); err != api.OK || !y.Commit {
		t.Error("goes on as it would")
	}
	for cut := 1; cut < len(b); cut++ {
		if x, ok := Read(wire.NewReader(b[1:cut])); ok || x != nil {
			t.Errorf("cut at %d", cut)
		}
	}
	if x, ok := Read(wire.NewReader([]byte{0})); !ok || x.Many() != 0 {
		t.Error("an empty one")
	}
	if x, ok := Read(nil); ok || x != nil {
		t.Error("of no reader")
	}
}

func TestReadWrong(t *testing.T) { // P19.3
	for i, b := range [][]byte{{1, 0, 1, 1, 0, 0}, {1, 9, 1, 1, 0, 0}, {1, 1, 0, 1, 0, 0}, {1, 1, 1, 0, 0, 0}, {1, 1, 1, 1, 0, 1, 1, 'a', 0, 0}, {1, 1, 1, 1, 1, 1, 0, 0, 0}, {1, 1, 1, 1, 1, 1, 1, 'a', 0, 1, 'x'},
		{2, 1, 1, 5, 0, 0, 1, 1, 6, 0, 0}, {2, 1, 1, 5, 0, 0, 1, 2, 5, 0, 0}, {2, 1, 1, 5, 0, 0, 1, 2, 4, 0, 0}, {200, 1, 1, 1, 1}, {1, 1, 1, 1, 1, 7, 1, 'a', 0, 0, 1, 'a', 0, 0, 1, 'a', 0, 0, 1, 'a', 0, 0, 1, 'a', 0, 0, 1, 'a', 0, 0, 1, 'a', 0, 0}} {
		if x, ok := Read(wire.NewReader(append(b, 0))); ok || x != nil {
			t.Errorf("%d", i)
		}
	}
}

func TestNone(t *testing.T) { // P19.4
	for _, b := range []*Book{nil, {}} {
		w := wire.NewWriter()
		x, err := b.Decide(Verdict{})
		_, is := b.Of(name(1, 1))
		if b.Copy() != nil || b.Many() != 0 || err != api.ErrNil || !reflect.DeepEqual(x, Verdict{}) || is || len(b.All()) > 0 || b.Write(w) != w {
			t.Error("a book that is none")
		}
		if l, _ := w.Done(); len(l) > 0 {
			t.Error("something was written")
		}
	}
}

func TestMemory(t *testing.T) { // R3
	x := yes(1, 1, 5, "a")
	b := New()
	got, _ := b.Decide(x)
	x.Reads[0].Key, got.Reads[0].Key = "x", "y"
	again, _ := b.Decide(yes(1, 1, 6))
	again.Reads[0].Key = "z"
	of, _ := b.Of(name(1, 1))
	of.Reads[0].Key = "z"
	b.All()[0].Reads[0].Key = "z"
	b.Copy().All()[0].Reads[0].Key = "z"
	if !same(b.All(), []Verdict{yes(1, 1, 5, "a")}) {
		t.Error("memory is shared")
	}
}

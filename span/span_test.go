package span_test

import (
	"slices"
	"strings"
	"testing"

	"watershed/api"
	. "watershed/span"
)

func sp(lo, hi string) api.Span { return api.Span{Lo: lo, Hi: hi} }

// texts are ends and keys, right and wrong, some beginnings of others.
var texts = []string{"", "0", "9", "a", "aa", "ab", "b", "m", "z", "zz"}

func spans() []api.Span {
	var l []api.Span
	for _, lo := range texts {
		for _, hi := range texts {
			l = append(l, sp(lo, hi))
		}
	}
	return append(l, sp("A", ""), sp("", "A"), sp("a", "b-"), sp(strings.Repeat("a", 21), ""))
}

func TestKey(t *testing.T) { // P4.1
	for _, s := range []string{"a", "z", "0", "9", "az09", strings.Repeat("k", 20)} {
		if !Key(s) {
			t.Errorf("%q is a key", s)
		}
	}
	for _, s := range []string{"", "A", "-", "a b", "a\n", "`", "{", "/", ":", "é", "a\x00", strings.Repeat("k", 21)} {
		if Key(s) {
			t.Errorf("%q is no key", s)
		}
	}
}

func TestRight(t *testing.T) { // P4.1
	for _, s := range []api.Span{sp("", ""), sp("a", ""), sp("", "a"), sp("a", "b"), sp("a", "aa"), sp("", "0"), sp("9", "a")} {
		if !Right(s) {
			t.Errorf("%v is right", s)
		}
	}
	for _, s := range []api.Span{sp("a", "a"), sp("b", "a"), sp("aa", "a"), sp("A", ""), sp("", "B"), sp("-", "a"), sp("a", "b "), sp("", strings.Repeat("b", 21))} {
		if Right(s) {
			t.Errorf("%v is not right", s)
		}
	}
}

func TestHas(t *testing.T) { // P4.1
	for _, c := range []struct {
		s   api.Span
		key string
		has bool
	}{
		{sp("", ""), "a", true}, {sp("", ""), "", false}, {sp("", ""), "A", false},
		{sp("a", "c"), "a", true}, {sp("a", "c"), "bzz", true}, {sp("a", "c"), "c", false}, {sp("a", "c"), "9", false},
		{sp("a", "c"), "ca", false}, {sp("b", ""), "zzz", true}, {sp("b", ""), "azz", false}, {sp("b", "a"), "b", false},
	} {
		if Has(c.s, c.key) != c.has {
			t.Errorf("%v, %q", c.s, c.key)
		}
	}
	if All() != sp("", "") {
		t.Error("all keys")
	}
}

func TestWithin(t *testing.T) { // P4.2
	for _, c := range []struct {
		in, s api.Span
		is    bool
	}{
		{sp("a", "b"), sp("a", "b"), true}, {sp("a", "b"), sp("", ""), true}, {sp("", ""), sp("", ""), true},
		{sp("a", "b"), sp("a", "c"), true}, {sp("b", "c"), sp("a", "c"), true}, {sp("a", ""), sp("a", "c"), false},
		{sp("", "b"), sp("a", "c"), false}, {sp("a", "d"), sp("a", "c"), false}, {sp("a", ""), sp("", ""), true},
		{sp("b", "a"), sp("", ""), false}, {sp("a", "b"), sp("", "b-"), false}, {sp("b", "c"), sp("A", ""), false}, {sp("b", "c-"), sp("a", ""), false}, {sp("a", "b"), sp("z", "a"), false}, {sp("", "0"), sp("", "1"), true},
	} {
		if Within(c.in, c.s) != c.is {
			t.Errorf("%v in %v", c.in, c.s)
		}
	}
}

func TestMeet(t *testing.T) { // P4.2, P4.5
	if m, ok := Meet(sp("a", "c"), sp("b", "")); !ok || m != sp("b", "c") {
		t.Errorf("%v", m)
	}
	for _, a := range spans() {
		for _, b := range spans() {
			m, ok := Meet(a, b)
			if !ok && m != sp("", "") {
				t.Errorf("%v, %v: %v", a, b, m)
			}
			if ok && (!Within(m, a) || !Within(m, b)) {
				t.Errorf("%v, %v: %v", a, b, m)
			}
			for _, k := range texts {
				if both := Has(a, k) && Has(b, k); both != (ok && Has(m, k)) {
					t.Errorf("%v, %v: %v, %q", a, b, m, k)
				}
			}
			if n, other := Meet(b, a); n != m || other != ok {
				t.Errorf("%v, %v: not the same the other way round", a, b)
			}
		}
	}
}

func TestCut(t *testing.T) { // P4.3, P4.5
	for _, c := range []struct {
		s    api.Span
		at   []string
		want []api.Span
	}{
		{sp("", ""), nil, []api.Span{sp("", "")}},
		{sp("", ""), []string{"m"}, []api.Span{sp("", "m"), sp("m", "")}},
		{sp("a", "z"), []string{"m", "c", "m"}, []api.Span{sp("a", "c"), sp("c", "m"), sp("m", "z")}},
		{sp("a", "z"), []string{"a", "z", "9", "zz", "", "A", "m!"}, []api.Span{sp("a", "z")}},
		{sp("b", "a"), []string{"m"}, nil},
	} {
		at := slices.Clone(c.at)
		if got := Cut(c.s, c.at...); !slices.Equal(got, c.want) {
			t.Errorf("%v at %v: %v", c.s, c.at, got)
		}
		if !slices.Equal(at, c.at) {
			t.Error("an argument was changed")
		}
	}
	for _, s := range spans() {
		l := Cut(s, texts...)
		for _, k := range texts {
			n := 0
			for _, x := range l {
				if Has(x, k) {
					n++
				}
			}
			if (n == 1) != Has(s, k) || n > 1 {
				t.Errorf("%v: %q is in %d", s, k, n)
			}
		}
	}
	if !Parts(Cut(All(), "m", "c", "zz")...) {
		t.Error("cuts of all keys part them")
	}
}

func TestParts(t *testing.T) { // P4.4
	for _, l := range [][]api.Span{{sp("", "")}, {sp("", "m"), sp("m", "")}, {sp("", "a"), sp("a", "b"), sp("b", "")}} {
		if !Parts(l...) {
			t.Errorf("%v part all keys", l)
		}
	}
	for _, l := range [][]api.Span{nil, {sp("a", "")}, {sp("", "a")}, {sp("", "a"), sp("b", "")}, {sp("", "b"), sp("a", "")}, {sp("", ""), sp("", "")},
		{sp("", "m"), sp("m", "c"), sp("c", "")}, {sp("", "A"), sp("A", "")}} {
		if Parts(l...) {
			t.Errorf("%v part not all keys", l)
		}
	}
}

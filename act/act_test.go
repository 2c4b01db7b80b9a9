package act_test

import (
	"math"
	"slices"
	"strings"
	"testing"

	. "watershed/act"
	"watershed/api"
)

func get(key string) api.Act           { return api.Act{Kind: api.ActGet, Key: key} }
func put(key, value string) api.Act    { return api.Act{Kind: api.ActPut, Key: key, Value: value} }
func add(key string, num int) api.Act  { return api.Act{Kind: api.ActAdd, Key: key, Num: num} }
func there(key, value string) api.Read { return api.Read{Key: key, Is: true, Value: value} }

func TestRight(t *testing.T) { // P14.1
	k := strings.Repeat("k", 20)
	for _, l := range [][]api.Act{{get("a")}, {put(k, "az09-")}, {put("a", "")}, {put("a", strings.Repeat("v", 20))}, {add("a", 0)}, {add("a", api.MaxNum), add("a", -api.MaxNum)}, {get("a"), get("b"), get("c"), get("d"), get("e"), get("f")}} {
		if !Right(l...) {
			t.Errorf("%v are right", l)
		}
	}
	for _, l := range [][]api.Act{nil, {}, make([]api.Act, 7), {{}}, {{Kind: 4, Key: "a"}}, {get("")}, {get(k + "k")}, {get("A")}, {put("-", "")}, {{Kind: api.ActGet, Key: "a", Value: "x"}}, {{Kind: api.ActGet, Key: "a", Num: 1}},
		{{Kind: api.ActPut, Key: "a", Num: 1}}, {put("a", strings.Repeat("v", 21))}, {put("a", "A")}, {put("a", "a b")}, {put("a", "_")}, {{Kind: api.ActAdd, Key: "a", Value: "1"}}, {add("a", api.MaxNum+1)}, {add("a", -api.MaxNum-1)},
		{get("a"), get("b"), get("c"), get("d"), get("e"), get("f"), get("g")}, {get("a"), {}}} {
		if Right(l...) {
			t.Errorf("%v are not right", l)
		}
	}
}

func TestName(t *testing.T) { // P14.1
	for _, n := range []api.Name{{Client: 1, Num: 1}, {Client: 8, Num: api.MaxNum}} {
		if !Name(n) {
			t.Errorf("%v is right", n)
		}
	}
	for _, n := range []api.Name{{}, {Client: 0, Num: 1}, {Client: 9, Num: 1}, {Client: 1}, {Client: 1, Num: api.MaxNum + 1}, {Client: -1, Num: -1}} {
		if Name(n) {
			t.Errorf("%v is not right", n)
		}
	}
}

func TestOlder(t *testing.T) { // P14.1
	a, b, c := api.Name{Client: 1, Num: 2}, api.Name{Client: 2, Num: 2}, api.Name{Client: 1, Num: 3}
	if !Older(a, b) || !Older(b, c) || !Older(a, c) || Older(a, a) || Older(b, a) || Older(c, b) {
		t.Error("older")
	}
}

func TestKeysOf(t *testing.T) { // P14.2
	l := []api.Act{get("b"), put("a", "1"), get("c"), add("b", 2), put("b", "x")}
	if got := Keys(l...); !slices.Equal(got, []string{"a", "b", "c"}) || len(Keys()) != 0 {
		t.Errorf("%v", got)
	}
	if got := Of("b", l...); !slices.Equal(got, []api.Act{get("b"), add("b", 2), put("b", "x")}) || len(Of("d", l...)) != 0 {
		t.Errorf("%v", got)
	}
}

func TestDo(t *testing.T) { // P14.3
	for i, c := range []struct {
		is    bool
		value string
		l     []api.Act
		reads []api.Read
		put   bool
		after string
	}{
		{true, "5", []api.Act{get("k"), add("k", 2), get("k")}, []api.Read{there("k", "5"), there("k", "5"), there("k", "7")}, true, "7"},
		{true, "5", nil, nil, false, ""},
		{true, "5", []api.Act{get("k")}, []api.Read{there("k", "5")}, false, ""},
		{false, "", []api.Act{get("k")}, []api.Read{{Key: "k"}}, false, ""},
		{false, "9", []api.Act{get("k"), add("k", 1)}, []api.Read{{Key: "k"}, {Key: "k"}}, true, "1"},
		{false, "", []api.Act{put("k", "x"), get("k"), put("k", "")}, []api.Read{there("k", "x")}, true, ""},
		{true, "", []api.Act{get("k"), put("k", "y")}, []api.Read{there("k", "")}, true, "y"},
		{true, "abc", []api.Act{add("k", -3), get("k")}, []api.Read{there("k", "abc"), there("k", "-3")}, true, "-3"},
		{true, "1073741824", []api.Act{add("k", 1), get("k")}, []api.Read{there("k", "1073741824"), there("k", "1073741824")}, true, "1073741824"},
		{true, "-1073741824", []api.Act{add("k", -1)}, []api.Read{there("k", "-1073741824")}, true, "-1073741824"},
		{true, "-1073741824", []api.Act{add("k", math.MaxInt)}, []api.Read{there("k", "-1073741824")}, true, "1073741824"},
		{true, "1073741824", []api.Act{add("k", math.MinInt)}, []api.Read{there("k", "1073741824")}, true, "-1073741824"},
		{true, "0012", []api.Act{add("k", 0)}, []api.Read{there("k", "0012")}, true, "12"},
		{true, "5", []api.Act{{Kind: 9, Key: "k"}, {}}, nil, false, ""},
	} {
		reads, put, after := Do(c.is, c.value, c.l...)
		if !slices.Equal(reads, c.reads) || put != c.put || after != c.after {
			t.Errorf("%d: %v, %v, %q", i, reads, put, after)
		}
	}
}

func TestNumber(t *testing.T) { // P14.4
	for s, want := range map[string]int{"": 0, "-": 0, "0": 0, "-0": 0, "7": 7, "-7": -7, "007": 7, "-007": -7, "1073741824": 1 << 30, "-1073741824": -1 << 30, "1073741825": 0, "-1073741825": 0,
		"99999999999999999999": 0, strings.Repeat("0", 90) + "12": 12, strings.Repeat("9", 90): 0, "1a": 0, "a1": 0, "--1": 0, "1-": 0, "+1": 0, " 1": 0, "1 ": 0, "18446744073709551617": 0, "٣": 0} {
		if got := Number(s); got != want {
			t.Errorf("%q: %d", s, got)
		}
	}
	for n, want := range map[int]string{0: "0", 7: "7", -7: "-7", 1 << 30: "1073741824", -1 << 30: "-1073741824", 1<<30 + 1: "1073741824", math.MaxInt: "1073741824", math.MinInt: "-1073741824"} {
		if got := Value(n); got != want {
			t.Errorf("%d: %q", n, got)
		}
	}
}

func TestFollows(t *testing.T) { // P14.5
	for n := -api.MaxNum; n <= api.MaxNum; n += 99991 {
		if got := Number(Value(n)); got != n {
			t.Fatalf("%d: %d", n, got)
		}
	}
	l := []api.Act{get("k"), put("k", "3"), add("k", 4), get("k"), add("k", -9), put("k", "z"), get("k")}
	for _, is := range []bool{true, false} {
		all, put, after := Do(is, "11", l...)
		var one []api.Read
		stands, value, any := is, "11", false
		for _, a := range l {
			reads, put, after := Do(stands, value, a)
			one = append(one, reads...)
			if put {
				stands, value, any = true, after, true
			}
		}
		if !slices.Equal(all, one) || put != any || after != value {
			t.Errorf("%v: %v, %v", is, all, one)
		}
	}
}

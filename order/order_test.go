package order_test

import (
	"bytes"
	"reflect"
	"slices"
	"strings"
	"testing"

	"watershed/api"
	. "watershed/order"
)

func name() api.Name { return api.Name{Client: 1, Num: 2} }

// some is a right order of each kind, with all its parts.
func some() []Order {
	s := api.Span{Lo: "a", Hi: "m"}
	return []Order{
		{Kind: Prepare, Name: name(), Epoch: 3, Acts: []api.Act{{Kind: api.ActPut, Key: "k", Value: "v"}, {Kind: api.ActAdd, Key: "l", Num: -5}}},
		{Kind: Finish, Name: name(), Commit: true},
		{Kind: Freeze, Scheme: 4, Span: s, Epoch: 3},
		{Kind: Thaw, Scheme: 4},
		{Kind: Absorb, Scheme: 4, Span: s, Bytes: []byte{7, 8}},
		{Kind: Open, Scheme: 4, Epoch: 3},
		{Kind: Drop, Scheme: 4},
		{Kind: Forget, Scheme: 4},
		{Kind: Decide, Name: name(), Commit: true, Reads: []api.Read{{Key: "k"}, {Key: "l", Is: true, Value: "v"}}},
		{Kind: Look, Name: name()},
		{Kind: Begin, Span: s, To: 2},
		{Kind: Step, Scheme: 4, Stage: 5},
		{Kind: Ask},
	}
}

// parts is a way to set each part, by its name.
func parts() map[string]func(*Order) {
	return map[string]func(*Order){
		"name": func(x *Order) { x.Name = name() }, "epoch": func(x *Order) { x.Epoch = 1 }, "acts": func(x *Order) { x.Acts = []api.Act{{Kind: api.ActGet, Key: "k"}} }, "commit": func(x *Order) { x.Commit = true },
		"reads": func(x *Order) { x.Reads = []api.Read{{Key: "k"}} }, "scheme": func(x *Order) { x.Scheme = 1 }, "stage": func(x *Order) { x.Stage = 1 }, "to": func(x *Order) { x.To = 1 },
		"span": func(x *Order) { x.Span = api.Span{Lo: "b"} }, "bytes": func(x *Order) { x.Bytes = []byte{1} },
	}
}

func TestParts(t *testing.T) { // P22.1
	has := []string{"name epoch acts", "name commit", "scheme span epoch", "scheme", "scheme span bytes", "scheme epoch", "scheme", "scheme", "name commit reads", "name", "span to", "scheme stage", ""}
	for i, x := range some() {
		if !Right(x) {
			t.Errorf("%v is right", x)
		}
		for part, set := range parts() {
			y := x
			set(&y)
			if Right(y) != strings.Contains(has[i], part) || Right(x, y) != Right(y) {
				t.Errorf("kind %d with %s: %v", x.Kind, part, Right(y))
			}
		}
	}
	if !Right() || !Right(some()...) || Right(Order{}) || Right(Order{Kind: 14}) || Right(Order{Kind: 255}) {
		t.Error("kinds")
	}
}

func TestRight(t *testing.T) { // P22.1
	for i, c := range []struct {
		x  Order
		is bool
	}{
		{Order{Kind: Look}, false}, {Order{Kind: Look, Name: api.Name{Client: 9, Num: 1}}, false}, {Order{Kind: Finish, Commit: true}, false}, {Order{Kind: Finish, Name: name()}, true},
		{Order{Kind: Prepare, Name: name()}, false}, {Order{Kind: Prepare, Name: name(), Acts: make([]api.Act, 1)}, false}, {Order{Kind: Prepare, Name: name(), Acts: []api.Act{{Kind: 1, Key: "k"}}}, true},
		{Order{Kind: Open, Scheme: 1 << 30, Epoch: api.MaxEpoch}, true}, {Order{Kind: Open, Scheme: 1}, true}, {Order{Kind: Open, Scheme: 1, Epoch: -1}, false}, {Order{Kind: Open, Scheme: 1, Epoch: api.MaxEpoch + 1}, false},
		{Order{Kind: Thaw}, false}, {Order{Kind: Thaw, Scheme: -1}, false}, {Order{Kind: Thaw, Scheme: 1<<30 + 1}, false}, {Order{Kind: Freeze, Scheme: 1}, true}, {Order{Kind: Freeze, Scheme: 1, Span: api.Span{Lo: "b", Hi: "a"}}, false},
		{Order{Kind: Absorb, Scheme: 1, Bytes: make([]byte, 1<<16)}, true}, {Order{Kind: Absorb, Scheme: 1, Bytes: make([]byte, 1<<16+1)}, false},
		{Order{Kind: Decide, Name: name(), Reads: []api.Read{{Key: "k"}}}, false}, {Order{Kind: Decide, Name: name(), Commit: true, Reads: make([]api.Read, 1)}, false}, {Order{Kind: Decide, Name: name(), Commit: true, Reads: slices.Repeat([]api.Read{{Key: "k"}}, 7)}, false},
		{Order{Kind: Begin, To: 4}, true}, {Order{Kind: Begin}, false}, {Order{Kind: Begin, To: 5}, false}, {Order{Kind: Begin, To: 1, Span: api.Span{Lo: "A"}}, false},
		{Order{Kind: Step, Scheme: 1}, true}, {Order{Kind: Step, Scheme: 1, Stage: 20}, true}, {Order{Kind: Step, Scheme: 1, Stage: 21}, false}, {Order{Kind: Step, Scheme: 1, Stage: -1}, false}, {Order{Kind: Ask, Acts: []api.Act{}, Bytes: []byte{}}, true},
	} {
		if Right(c.x) != c.is {
			t.Errorf("%d: %v", i, !c.is)
		}
		if b, err := Put(c.x); (err == api.OK) != c.is || err != api.OK && (err != api.ErrArg || len(b) > 0) {
			t.Errorf("%d: put, %d", i, err)
		}
	}
}

func answers() []Answer {
	return []Answer{{}, {Err: 99, Name: name(), Is: true, Reads: []api.Read{{Key: "k", Is: true, Value: "v"}, {Key: "l"}}, Scheme: 300, Stage: 20, Bytes: []byte{9}}, {Commit: true, Scheme: 1 << 30, Bytes: make([]byte, api.MaxImage)}}
}

func TestSound(t *testing.T) { // P22.1
	if !Sound() || !Sound(answers()...) {
		t.Error("these are right")
	}
	for i, x := range []Answer{{Err: -1}, {Err: 100}, {Name: api.Name{Client: 1}}, {Name: api.Name{Client: 9, Num: 1}}, {Reads: make([]api.Read, 1)}, {Reads: slices.Repeat([]api.Read{{Key: "k"}}, 7)}, {Scheme: -1}, {Scheme: 1<<30 + 1}, {Stage: -1}, {Stage: 21}, {Bytes: make([]byte, api.MaxImage+1)}} {
		if Sound(x) || Sound(Answer{}, x) {
			t.Errorf("%d is right", i)
		}
		if b, err := PutAnswer(x); err != api.ErrArg || len(b) > 0 {
			t.Errorf("%d: %d", i, err)
		}
	}
}

func TestPut(t *testing.T) { // P22.2
	for i, want := range map[int][]byte{
		0:  {1, 1, 2, 3, 2, 2, 1, 'k', 1, 'v', 0, 0, 3, 1, 'l', 0, 1, 5, 0, 0, 0, 0, 0, 0, 0, 0},
		4:  {5, 0, 0, 0, 0, 0, 0, 4, 0, 0, 1, 'a', 1, 'm', 2, 7, 8},
		8:  {9, 1, 2, 0, 0, 1, 2, 1, 'k', 0, 0, 1, 'l', 1, 1, 'v', 0, 0, 0, 0, 0, 0},
		9:  {10, 1, 2, 0, 0, 0, 0, 0, 0, 0, 0, 0, 0},
		10: {11, 0, 0, 0, 0, 0, 0, 0, 0, 2, 1, 'a', 1, 'm', 0},
		11: {12, 0, 0, 0, 0, 0, 0, 4, 5, 0, 0, 0, 0},
	} {
		if b, err := Put(some()[i]); err != api.OK || !bytes.Equal(b, want) {
			t.Errorf("%d: %v, %d", i, b, err)
		}
	}
	if b, err := PutAnswer(answers()[1]); err != api.OK || !bytes.Equal(b, []byte{99, 1, 2, 1, 0, 2, 1, 'k', 1, 1, 'v', 1, 'l', 0, 0, 172, 2, 20, 1, 9}) {
		t.Errorf("%v, %d", b, err)
	}
}

func TestGet(t *testing.T) { // P22.2, P22.3
	for _, x := range some() {
		b, _ := Put(x)
		y, err := Get(b)
		if again, _ := Put(y); err != api.OK || y.Kind != x.Kind || !reflect.DeepEqual(y.Acts, x.Acts) || !bytes.Equal(again, b) {
			t.Errorf("%v, %d", y, err)
		}
		for cut := range b {
			if y, err := Get(b[:cut]); err != api.ErrShape || !reflect.DeepEqual(y, Order{}) {
				t.Errorf("kind %d, cut at %d: %d", x.Kind, cut, err)
			}
		}
		if y, err := Get(append(b, 0)); err != api.ErrShape || !reflect.DeepEqual(y, Order{}) {
			t.Errorf("kind %d, a byte behind: %d", x.Kind, err)
		}
		for i := range b {
			for v := range 256 {
				c := slices.Clone(b)
				c[i] = byte(v)
				y, err := Get(c)
				if again, _ := Put(y); err == api.OK && !bytes.Equal(again, c) || err != api.OK && (err != api.ErrShape || !reflect.DeepEqual(y, Order{})) {
					t.Fatalf("kind %d, byte %d as %d: %d", x.Kind, i, v, err)
				}
			}
		}
	}
}

func TestGetAnswer(t *testing.T) { // P22.2, P22.3
	for _, x := range answers() {
		b, _ := PutAnswer(x)
		y, err := GetAnswer(b)
		if again, _ := PutAnswer(y); err != api.OK || y.Err != x.Err || y.Is != x.Is || y.Commit != x.Commit || !reflect.DeepEqual(y.Reads, x.Reads) || !bytes.Equal(again, b) {
			t.Errorf("%v, %d", y, err)
		}
		for cut := range min(len(b), 30) {
			if y, err := GetAnswer(b[:cut]); err != api.ErrShape || !reflect.DeepEqual(y, Answer{}) {
				t.Errorf("cut at %d: %d", cut, err)
			}
		}
		if y, err := GetAnswer(append(b, 0)); err != api.ErrShape || !reflect.DeepEqual(y, Answer{}) {
			t.Errorf("a byte behind: %d", err)
		}
		for i := range min(len(b), 30) {
			for v := range 256 {
				c := slices.Clone(b)
				c[i] = byte(v)
				y, err := GetAnswer(c)
				if again, _ := PutAnswer(y); err == api.OK && !bytes.Equal(again, c) || err != api.OK && (err != api.ErrShape || !reflect.DeepEqual(y, Answer{})) {
					t.Fatalf("byte %d as %d: %d", i, v, err)
				}
			}
		}
	}
}

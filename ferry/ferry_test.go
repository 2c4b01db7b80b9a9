package ferry_test

import (
	"bytes"
	"math"
	"reflect"
	"slices"
	"testing"

	"watershed/api"
	. "watershed/ferry"
)

func some(n int) []byte {
	b := make([]byte, n)
	for i := range b {
		b[i] = byte(i*7 + i>>8)
	}
	return b
}

func image(n int) api.Image {
	return api.Image{Base: api.Base{Index: 9, Term: 3, Config: api.Config{Voters: []int{1, 2}}}, Bytes: some(n)}
}

func ask(at int) api.Letter {
	return api.Letter{Kind: api.LetterPiece, Group: 2, From: 1, To: 3, Term: 4, At: at, Base: api.Base{Index: 9, Term: 3}, Entries: []api.Entry{{Term: 1}}, Tag: 8}
}

// piece is the bytes from, to of an image of so many.
func piece(from, to, size int) api.Letter {
	return api.Letter{Kind: api.LetterPiece, Term: 4, Base: image(0).Base, Size: size, At: from, Bytes: some(size)[from:to]}
}

func TestFill(t *testing.T) { // P13.1
	m := image(1000)
	for at, n := range map[int]int{0: 600, 1: 600, 400: 600, 401: 599, 999: 1, 1000: 0} {
		x, ok := Fill(ask(at), m)
		want := api.Letter{Kind: api.LetterPiece, Group: 2, From: 1, To: 3, Term: 4, At: at, Size: 1000, Base: m.Base, Tag: 8}
		b := x.Bytes
		if x.Bytes = nil; !ok || !reflect.DeepEqual(x, want) || !bytes.Equal(b, m.Bytes[at:at+n]) {
			t.Errorf("%d: %+v, %d bytes", at, x, len(b))
		}
	}
	for i, c := range []func(*api.Letter){
		func(x *api.Letter) { x.Kind = api.LetterAppend }, func(x *api.Letter) { x.Base.Index = 8 }, func(x *api.Letter) { x.Base.Term = 4 }, func(x *api.Letter) { x.At = -1 }, func(x *api.Letter) { x.At = 1001 },
		func(x *api.Letter) { x.At = math.MaxInt }, func(x *api.Letter) { x.At = math.MinInt },
	} {
		x := ask(0)
		c(&x)
		if y, ok := Fill(x, m); ok || !reflect.DeepEqual(y, api.Letter{}) {
			t.Errorf("%d: %+v", i, y)
		}
	}
	if x, ok := Fill(ask(0), image(0)); !ok || x.Size != 0 || len(x.Bytes) > 0 {
		t.Errorf("%+v", x)
	}
}

func TestFillIsNew(t *testing.T) { // R3
	m := image(10)
	x, _ := Fill(ask(0), m)
	x.Bytes[0], x.Base.Config.Voters[0] = 99, 5
	if !reflect.DeepEqual(m, image(10)) {
		t.Error("memory is shared")
	}
}

func take(t *testing.T, f *Ferry, x api.Letter, at int, whole bool) {
	t.Helper()
	got, done, m := f.Take(x)
	if got != at || done != whole {
		t.Errorf("%d, %v, not %d", got, done, at)
	}
	want := api.Image{}
	if whole {
		want = image(x.Size)
	}
	if len(m.Bytes) == 0 {
		m.Bytes = want.Bytes[:0]
	}
	if !reflect.DeepEqual(m, want) {
		t.Errorf("%+v", m)
	}
}

func TestTake(t *testing.T) { // P13.3
	f := New()
	take(t, f, piece(600, 1000, 1000), 0, false) // of none, not from the beginning
	take(t, f, piece(0, 600, 1000), 600, false)
	take(t, f, piece(0, 600, 1000), 600, false) // twice
	take(t, f, piece(0, 300, 1000), 600, false) // less than it has
	take(t, f, piece(700, 1000, 1000), 600, false)
	take(t, f, piece(600, 600, 1000), 600, false)
	take(t, f, piece(500, 700, 1000), 700, false)
	take(t, f, piece(700, 1000, 1000), 1000, true)
	take(t, f, piece(700, 1000, 1000), 0, false) // none any more
	take(t, f, piece(0, 1000, 1000), 1000, true)
	take(t, f, piece(0, 0, 0), 0, true)
}

func TestOtherCrossings(t *testing.T) { // P13.3
	for i, c := range []func(*api.Letter){
		func(x *api.Letter) { x.Term = 5 }, func(x *api.Letter) { x.Base.Index = 8 }, func(x *api.Letter) { x.Base.Term = 4 }, func(x *api.Letter) { x.Size = 21 },
	} {
		f := New()
		take(t, f, piece(0, 10, 20), 10, false)
		x := piece(10, 15, 20)
		c(&x)
		take(t, f, x, 0, false)
		take(t, f, piece(10, 15, 20), 15, false) // the one that it had goes on
		y := piece(0, 5, 20)
		c(&y)
		take(t, f, y, 5, false)
		take(t, f, piece(15, 20, 20), 0, false)
		if t.Failed() {
			t.Fatalf("%d", i)
		}
	}
}

func TestWrongPieces(t *testing.T) { // P13.3
	for i, c := range []func(*api.Letter){
		func(x *api.Letter) { x.Kind = api.LetterGot }, func(x *api.Letter) { x.Size = -1 }, func(x *api.Letter) { x.Size = api.MaxImage + 1 }, func(x *api.Letter) { x.At = -1 }, func(x *api.Letter) { x.At = 21 },
		func(x *api.Letter) { x.At = 16 }, func(x *api.Letter) { x.At = math.MaxInt }, func(x *api.Letter) { x.Bytes = some(11) }, func(x *api.Letter) { x.Size = 9 },
	} {
		f := New()
		take(t, f, piece(0, 10, 20), 10, false)
		x := piece(10, 15, 20)
		c(&x)
		if i == 7 {
			x.At = 10
		}
		take(t, f, x, 0, false)
		take(t, f, piece(10, 20, 20), 20, true)
		if t.Failed() {
			t.Fatalf("%d", i)
		}
	}
	f := New()
	x := piece(0, 0, 0)
	x.Size = api.MaxImage
	take(t, f, x, 0, false)
}

func TestSizes(t *testing.T) { // P13.3
	f := New()
	whole := piece(0, 600, 600)
	whole.Size = api.MaxImage
	take(t, f, whole, 600, false)
	end := api.Letter{Kind: api.LetterPiece, Term: 4, Base: image(0).Base, Size: api.MaxImage, At: 600, Bytes: make([]byte, api.MaxImage-600)}
	if at, done, m := f.Take(end); at != api.MaxImage || !done || len(m.Bytes) != api.MaxImage {
		t.Errorf("%d, %v", at, done)
	}
	f = New()
	take(t, f, piece(0, 0, 20), 0, false)
	take(t, f, piece(5, 10, 20), 0, false) // behind what it has
	take(t, f, piece(0, 20, 20), 20, true)
	x := piece(20, 20, 20)
	take(t, f, x, 0, false)
	take(t, f, piece(0, 10, 20), 10, false)
	take(t, f, x, 10, false)
	x.At, x.Size = 21, 20
	take(t, f, x, 0, false)
}

func full() api.Config {
	return api.Config{Voters: []int{1}, Old: []int{2}, Learners: []int{3}, Want: []int{4}}
}

func TestConfigs(t *testing.T) { // R3
	m := api.Image{Base: api.Base{Config: full()}, Bytes: some(5)}
	x, _ := Fill(api.Letter{Kind: api.LetterPiece}, m)
	if !reflect.DeepEqual(x.Base.Config, full()) {
		t.Errorf("%+v", x.Base.Config)
	}
	_, _, got := New().Take(x)
	for _, c := range []api.Config{x.Base.Config, m.Base.Config} {
		clear(c.Voters)
		clear(c.Old)
		clear(c.Learners)
		clear(c.Want)
		clear(x.Bytes)
	}
	if !reflect.DeepEqual(got.Base.Config, full()) || !bytes.Equal(got.Bytes, some(5)) {
		t.Errorf("memory is shared: %+v", got)
	}
	x, _ = Fill(api.Letter{Kind: api.LetterPiece}, api.Image{Base: api.Base{Config: full()}, Bytes: some(5)})
	clear(x.Base.Config.Want)
}

func TestNewAndDrop(t *testing.T) { // P13.2
	f := New()
	take(t, f, piece(0, 10, 20), 10, false)
	f.Drop()
	take(t, f, piece(10, 20, 20), 0, false)
	take(t, f, piece(0, 20, 20), 20, true)
	for _, f := range []*Ferry{nil, {}} {
		f.Drop()
		take(t, f, piece(0, 20, 20), 0, false)
		take(t, f, piece(0, 0, 0), 0, false)
		if at, done, _ := f.Take(piece(0, 0, 0)); at != 0 || done {
			t.Error("a ferry that is none")
		}
	}
}

func TestMemory(t *testing.T) { // R3
	f := New()
	x := piece(0, 10, 20)
	x.Bytes = slices.Clone(x.Bytes)
	f.Take(x)
	clear(x.Bytes)
	x = piece(10, 20, 20)
	x.Base.Config.Voters = []int{1, 2}
	_, _, m := f.Take(x)
	x.Base.Config.Voters[0] = 7
	if !reflect.DeepEqual(m, image(20)) {
		t.Error("memory is shared")
	}
}

func TestInAnyOrder(t *testing.T) { // P13.4
	seed := uint32(3)
	next := func(n int) int {
		seed = seed*1664525 + 1013904223
		return int(seed>>12) % n
	}
	for range 200 {
		m, f, at := image(next(5000)), New(), 0
		whole := false
		for steps := 0; !whole && steps < 3000; steps++ {
			x, ok := Fill(ask(max(0, at-next(3)*next(700))), m)
			if !ok {
				t.Fatal("filled not")
			}
			if next(4) == 0 {
				continue // lost
			}
			got, done, n := f.Take(x)
			if done && !reflect.DeepEqual(n.Bytes, append([]byte{}, m.Bytes...)) && len(m.Bytes) > 0 {
				t.Fatal("another image")
			}
			at, whole = got, done
		}
		if !whole {
			t.Fatal("none yet")
		}
	}
}

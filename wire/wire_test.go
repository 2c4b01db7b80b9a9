package wire_test

import (
	"bytes"
	"math"
	"testing"

	"watershed/api"
	. "watershed/wire"
)

// mostNumber is the greatest number.
const mostNumber = 1<<62 - 1

func done(t *testing.T, w *Writer) []byte {
	t.Helper()
	b, err := w.Done()
	if err != api.OK {
		t.Fatalf("Done: %d", err)
	}
	return b
}

func TestWritten(t *testing.T) { // P2.1
	for _, c := range []struct {
		got  *Writer
		want []byte
	}{
		{NewWriter(), nil},
		{NewWriter().Numbers(), nil},
		{NewWriter().Numbers(0, 1, 127, 128, 300), []byte{0, 1, 127, 128, 1, 172, 2}},
		{NewWriter().Numbers(16383, 16384), []byte{255, 127, 128, 128, 1}},
		{NewWriter().Numbers(mostNumber), []byte{255, 255, 255, 255, 255, 255, 255, 255, 63}},
		{NewWriter().Flags(true, false, true), []byte{1, 0, 1}},
		{NewWriter().Texts("ab", "", "c"), []byte{2, 97, 98, 0, 1, 99}},
		{NewWriter().Rows([]byte{9, 8}, nil, []byte{}), []byte{2, 9, 8, 0, 0}},
		{NewWriter().Numbers(5).Texts("x").Flags(true).Rows([]byte{7}), []byte{5, 1, 120, 1, 1, 7}},
	} {
		if b := done(t, c.got); !bytes.Equal(b, c.want) {
			t.Errorf("%v, not %v", b, c.want)
		}
	}
	long := make([]byte, 200)
	if b := done(t, NewWriter().Rows(long)); len(b) != 202 || b[0] != 200 || b[1] != 1 {
		t.Errorf("%v", b[:3])
	}
}

func TestWriterTellsItself(t *testing.T) { // P2.1
	w := NewWriter()
	if w.Numbers(1) != w || w.Flags(true) != w || w.Texts("a") != w || w.Rows(nil) != w || w.Numbers(-1) != w {
		t.Error("another writer")
	}
}

func TestSpoilt(t *testing.T) { // P2.1
	for _, n := range []int{-1, math.MinInt, 1 << 62, math.MaxInt} {
		w := NewWriter().Numbers(1, n, 2).Texts("a")
		for range 2 {
			if b, err := w.Done(); err != api.ErrArg || len(b) > 0 {
				t.Errorf("%d: %v, %d", n, b, err)
			}
			w.Numbers(3).Flags(true)
		}
	}
}

func TestDoneIsACopy(t *testing.T) { // P2.1
	w := NewWriter().Numbers(1, 2)
	b := done(t, w)
	b[0] = 9
	w.Numbers(3)
	if c := done(t, w); !bytes.Equal(c, []byte{1, 2, 3}) || !bytes.Equal(b, []byte{9, 2}) {
		t.Errorf("%v, %v", c, b)
	}
}

func TestRead(t *testing.T) { // P2.2, P2.3
	b := []byte{172, 2, 1, 0, 2, 97, 98, 1, 7, 0, 5}
	r := NewReader(b)
	clear(b)
	if r.Left() != 11 || r.Number(300) != 300 || !r.Flag() || r.Flag() || r.Text(2) != "ab" || !bytes.Equal(r.Row(1), []byte{7}) {
		t.Error("what was read")
	}
	if r.Left() != 2 || r.End() != api.ErrShape || r.Row(0) != nil && r.Left() != 1 {
		t.Error("what is left")
	}
	if r.Number(5) != 5 || r.Left() != 0 || r.End() != api.OK {
		t.Error("the end")
	}
	if r.Number(9) != 0 || r.End() != api.ErrShape || r.Left() != 0 {
		t.Error("behind the end")
	}
	if NewReader(nil).End() != api.OK || NewReader(nil).Left() != 0 {
		t.Error("nothing")
	}
}

// failed tells whether a reader has failed, for good, whatever stands behind.
func failed(r *Reader) bool {
	return r.Left() == 0 && r.End() == api.ErrShape && r.Number(math.MaxInt) == 0 && !r.Flag() && r.Text(math.MaxInt) == "" && len(r.Row(math.MaxInt)) == 0 && r.Left() == 0 && r.End() == api.ErrShape
}

func TestNumbersThatAreNone(t *testing.T) { // P2.2
	for _, b := range [][]byte{
		{}, {128}, {128, 0}, {255, 0}, {128, 128, 0}, {1<<7 | 1, 128},
		{255, 255, 255, 255, 255, 255, 255, 255, 64},
		{255, 255, 255, 255, 255, 255, 255, 255, 127},
		{255, 255, 255, 255, 255, 255, 255, 255, 255, 1},
		{128, 128, 128, 128, 128, 128, 128, 128, 128, 128, 1},
		{128, 128, 128, 128, 128, 128, 128, 128, 128, 0},
	} {
		r := NewReader(b)
		if n := r.Number(math.MaxInt); n != 0 || !failed(r) {
			t.Errorf("%v: %d", b, n)
		}
		if b = append(b, 0, 0, 0, 0); len(b) < 10 {
			continue // these are one with what follows
		}
		r = NewReader(b)
		if n := r.Number(math.MaxInt); n != 0 || !failed(r) {
			t.Errorf("%v: %d", b, n)
		}
	}
	r := NewReader([]byte{128, 0, 1, 1, 1})
	if r.Number(9) != 0 || !failed(r) {
		t.Error("fails for good, whatever follows")
	}
	r = NewReader([]byte{255, 255, 255, 255, 255, 255, 255, 255, 63, 1})
	if r.Number(mostNumber) != mostNumber || r.Left() != 1 {
		t.Error("the greatest number")
	}
}

func TestFlags(t *testing.T) { // P2.2
	for b := range 256 {
		r := NewReader([]byte{byte(b), 0, 1, 1})
		if got := r.Flag(); got != (b == 1) || b < 2 && r.Left() != 3 || b > 1 && !failed(r) {
			t.Errorf("%d: %v", b, got)
		}
	}
	if r := NewReader(nil); r.Flag() || !failed(r) {
		t.Error("of no byte")
	}
}

func TestMost(t *testing.T) { // P2.2
	for _, c := range []struct {
		most int
		ok   bool
	}{{5, true}, {6, true}, {math.MaxInt, true}, {4, false}, {0, false}, {-1, false}, {math.MinInt, false}} {
		r := NewReader([]byte{5, 1})
		if n := r.Number(c.most); c.ok && (n != 5 || r.Left() != 1) || !c.ok && (n != 0 || !failed(r)) {
			t.Errorf("number, most %d: %d", c.most, n)
		}
		r = NewReader([]byte{5, 97, 98, 99, 100, 101, 1})
		if s := r.Text(c.most); c.ok && (s != "abcde" || r.Left() != 1) || !c.ok && (s != "" || !failed(r)) {
			t.Errorf("text, most %d: %q", c.most, s)
		}
		r = NewReader([]byte{5, 97, 98, 99, 100, 101, 1})
		if s := r.Row(c.most); c.ok && (string(s) != "abcde" || r.Left() != 1) || !c.ok && (len(s) > 0 || !failed(r)) {
			t.Errorf("row, most %d: %q", c.most, s)
		}
	}
	for _, most := range []int{-1, math.MinInt} {
		a, b, c := NewReader([]byte{0, 1}), NewReader([]byte{0, 1}), NewReader([]byte{0, 1})
		if a.Number(most) != 0 || b.Text(most) != "" || len(c.Row(most)) > 0 || !failed(a) || !failed(b) || !failed(c) {
			t.Error("nothing is at most less than nothing")
		}
	}
}

func TestTooFew(t *testing.T) { // P2.2
	for _, b := range [][]byte{{1}, {3, 1, 2}, {255, 255, 255, 255, 255, 255, 255, 255, 63, 1}} {
		r, s := NewReader(b), NewReader(b)
		if r.Text(math.MaxInt) != "" || !failed(r) || len(s.Row(math.MaxInt)) > 0 || !failed(s) {
			t.Errorf("%v", b)
		}
	}
}

func TestRowIsNew(t *testing.T) { // R3
	r := NewReader([]byte{2, 1, 2, 2, 3, 4})
	a := r.Row(2)
	a = append(a, 9, 9, 9)
	a[0] = 9
	if b := r.Row(2); !bytes.Equal(b, []byte{3, 4}) {
		t.Errorf("%v", b)
	}
}

func TestNone(t *testing.T) { // P2.4
	for _, w := range []*Writer{nil, {}} {
		if w.Numbers(1) != w || w.Flags(true) != w || w.Texts("a") != w || w.Rows([]byte{1}) != w {
			t.Error("another writer")
		}
		if b, err := w.Done(); len(b) > 0 || err != api.ErrNil {
			t.Errorf("%v, %d", b, err)
		}
	}
	for _, r := range []*Reader{nil, {}} {
		if r.Number(9) != 0 || r.Flag() || r.Text(9) != "" || len(r.Row(9)) > 0 || r.Left() != 0 || r.End() != api.ErrNil {
			t.Error("a reader that is none")
		}
	}
}

func TestWhatIsWrittenIsRead(t *testing.T) { // P2.5
	w, n := NewWriter(), []int{}
	for k := range 62 {
		n = append(n, 1<<k-1, 1<<k, 1<<k+1)
	}
	b := done(t, w.Numbers(n...).Flags(true).Texts("", "abc").Rows([]byte{0, 255}))
	r, again := NewReader(b), NewWriter()
	for _, x := range n {
		got := r.Number(mostNumber)
		if got != x {
			t.Errorf("%d, not %d", got, x)
		}
		again.Numbers(got)
	}
	again.Flags(r.Flag()).Texts(r.Text(0), r.Text(3)).Rows(r.Row(2))
	if r.End() != api.OK || !bytes.Equal(done(t, again), b) {
		t.Error("other bytes")
	}
}

func TestAllShortBytesReadOneWay(t *testing.T) { // P2.5
	for x := range 1 << 16 {
		b := []byte{byte(x), byte(x >> 8)}
		r := NewReader(b)
		n := r.Number(mostNumber)
		if r.End() == api.OK && !bytes.Equal(done(t, NewWriter().Numbers(n)), b) {
			t.Fatalf("%v is read as %d", b, n)
		}
	}
}

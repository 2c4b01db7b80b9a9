package frame_test

import (
	"bytes"
	"testing"

	"watershed/api"
	. "watershed/frame"
	"watershed/sum"
)

func put(t *testing.T, l ...Frame) []byte {
	t.Helper()
	b, err := Put(l...)
	if err != api.OK {
		t.Fatalf("Put: %d", err)
	}
	return b
}

func same(a, b []Frame) bool {
	if len(a) != len(b) {
		return false
	}
	for i := range a {
		if a[i].Kind != b[i].Kind || !bytes.Equal(a[i].Data, b[i].Data) {
			return false
		}
	}
	return true
}

func some() []Frame {
	return []Frame{{7, nil}, {0, []byte{1}}, {255, []byte("some bytes")}, {3, make([]byte, 300)}}
}

func TestPutIsTheWords(t *testing.T) { // P3.1
	s := sum.Sum([]byte{0, 0, 0, 0, 7})
	if b := put(t, Frame{Kind: 7}); !bytes.Equal(b, []byte{0, 0, 0, 0, 7, byte(s), byte(s >> 8), byte(s >> 16), byte(s >> 24)}) {
		t.Errorf("%v", b)
	}
	data := make([]byte, 0x1234)
	data[5] = 9
	s = sum.Sum([]byte{0x34, 0x12, 0, 0, 200}, data)
	b := put(t, Frame{200, data})
	if !bytes.Equal(b[:9], []byte{0x34, 0x12, 0, 0, 200, byte(s), byte(s >> 8), byte(s >> 16), byte(s >> 24)}) || !bytes.Equal(b[9:], data) {
		t.Errorf("%v", b[:9])
	}
	if b := put(t); len(b) != 0 {
		t.Errorf("of none: %v", b)
	}
	if b := put(t, Frame{7, nil}, Frame{1, []byte{2}}); !bytes.Equal(b, append(put(t, Frame{7, nil}), put(t, Frame{1, []byte{2}})...)) {
		t.Errorf("%v", b)
	}
}

func TestPutErrors(t *testing.T) { // P3.1
	long := make([]byte, api.MaxFrame+1)
	for i, c := range []struct {
		l   []Frame
		err api.Errno
	}{
		{[]Frame{{-1, nil}}, api.ErrArg},
		{[]Frame{{256, nil}}, api.ErrArg},
		{[]Frame{{1, long}}, api.ErrLong},
		{[]Frame{{256, long}}, api.ErrArg},
		{[]Frame{{1, long}, {256, nil}}, api.ErrLong},
		{[]Frame{{0, nil}, {256, nil}, {1, long}}, api.ErrArg},
		{[]Frame{{255, long[:api.MaxFrame]}}, api.OK},
	} {
		b, err := Put(c.l...)
		if err != c.err || err != api.OK && len(b) > 0 {
			t.Errorf("%d: %d, not %d", i, err, c.err)
		}
	}
}

func TestGet(t *testing.T) { // P3.2, P3.3
	l := some()
	b := put(t, l...)
	rest := put(t, Frame{9, []byte("x")})
	for _, tail := range [][]byte{nil, {0}, {1, 2, 3}, make([]byte, 20), rest[:len(rest)-1]} {
		got, n := Get(append(append([]byte(nil), b...), tail...))
		if n != len(b) || !same(got, l) {
			t.Errorf("%v: %d frames, %d bytes", tail, len(got), n)
		}
	}
	if got, n := Get(append(append([]byte(nil), b...), rest...)); n != len(b)+len(rest) || len(got) != 5 {
		t.Errorf("%d frames, %d bytes", len(got), n)
	}
	if got, n := Get(nil); len(got) != 0 || n != 0 {
		t.Error("of none")
	}
	big := []Frame{{1, make([]byte, api.MaxFrame)}}
	if got, n := Get(put(t, big...)); n != api.MaxFrame+9 || !same(got, big) {
		t.Error("the longest")
	}
}

// tooLong is the bytes of a frame that would be right, if it were not too long.
func tooLong() []byte {
	data := make([]byte, api.MaxFrame+1)
	h := []byte{1, 0, 4, 0, 1}
	x := sum.Sum(h, data)
	return append(append(h, byte(x), byte(x>>8), byte(x>>16), byte(x>>24)), data...)
}

func TestGetTooLong(t *testing.T) { // P3.2
	if got, n := Get(tooLong()); len(got) != 0 || n != 0 {
		t.Error("a frame of more than MaxFrame bytes")
	}
}

func TestCutAnywhere(t *testing.T) { // P3.3
	l := some()[:3]
	b := put(t, l...)
	for cut := range len(b) + 1 {
		want, length := 0, 0
		for want < len(l) && length+9+len(l[want].Data) <= cut {
			length += 9 + len(l[want].Data)
			want++
		}
		if got, n := Get(b[:cut]); n != length || !same(got, l[:want]) {
			t.Errorf("cut at %d: %d frames, %d bytes", cut, len(got), n)
		}
	}
}

func TestTurnedBit(t *testing.T) { // P3.3
	l := some()[:3]
	b := put(t, l...)
	at := 9
	for k := range 8 * 10 { // the second frame
		c := append([]byte(nil), b...)
		c[at+k/8] ^= 1 << (k % 8)
		got, n := Get(c)
		if k/8 >= 4 && (n != at || len(got) != 1) {
			t.Errorf("bit %d: %d frames", k, len(got))
		}
		if len(got) < 1 || !same(got[:1], l[:1]) {
			t.Errorf("bit %d: the one ahead is lost", k)
		}
	}
}

func TestLengths(t *testing.T) { // P3.1, P3.2
	for n := range 600 {
		data := make([]byte, n)
		b := put(t, Frame{n % 256, data}, Frame{9, nil})
		if b[0] != byte(n) || b[1] != byte(n>>8) || b[2] != 0 || b[3] != 0 || len(b) != n+18 {
			t.Fatalf("%d bytes", n)
		}
		if l, k := Get(b); k != len(b) || !same(l, []Frame{{n % 256, data}, {9, nil}}) {
			t.Fatalf("%d bytes", n)
		}
	}
	b := put(t, Frame{1, make([]byte, api.MaxFrame)})
	if b[2] != 4 || b[3] != 0 {
		t.Error("the longest")
	}
	b[3] = 1
	if l, k := Get(b); len(l) > 0 || k != 0 {
		t.Error("a length of four bytes")
	}
}

func TestFramesAreNew(t *testing.T) { // R3
	b := put(t, Frame{1, []byte{5}}, Frame{1, []byte{6}})
	l, _ := Get(b)
	l[0].Data = append(l[0].Data, 9, 9, 9, 9, 9, 9, 9, 9, 9, 9)
	l[0].Data[0] = 9
	if again, _ := Get(b); again[0].Data[0] != 5 || again[1].Data[0] != 6 {
		t.Error("frames share bytes with what they were got from")
	}
}

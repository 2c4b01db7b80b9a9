package sum_test

import (
	"testing"

	. "watershed/sum"
)

// bitwise sums as the document's words say, bit by bit.
func bitwise(r uint32, b []byte) uint32 {
	for _, x := range b {
		for k := range 8 {
			t := r & 1
			if x>>k&1 == 1 {
				t ^= 1
			}
			r >>= 1
			if t == 1 {
				r ^= 0xEDB88320
			}
		}
	}
	return r
}

func some(n int, seed uint32) []byte {
	b := make([]byte, n)
	for i := range b {
		seed = seed*1664525 + 1013904223
		b[i] = byte(seed >> 24)
	}
	return b
}

func TestSumIsTheWords(t *testing.T) { // P1.1
	if Sum() != 0 || Sum(nil, nil) != 0 {
		t.Error("the sum of none is not 0")
	}
	if got := Sum([]byte("123456789")); got != 0xCBF43926 {
		t.Errorf("%08x", got)
	}
	for n := range 70 {
		b := some(n, uint32(n))
		if got, want := Sum(b), ^bitwise(^uint32(0), b); got != want {
			t.Errorf("%d bytes: %08x, not %08x", n, got, want)
		}
	}
	for x := range 256 {
		b := []byte{byte(x)}
		if got, want := Sum(b), ^bitwise(^uint32(0), b); got != want {
			t.Errorf("byte %d: %08x, not %08x", x, got, want)
		}
	}
}

func TestMore(t *testing.T) { // P1.2
	if More(7) != 7 || More(7, nil, []byte{}) != 7 {
		t.Error("nothing more changes a sum")
	}
	for _, s := range []uint32{0, 1, 7, 0xFFFFFFFF, 0xCBF43926, 0x80000000} {
		b := some(33, s)
		if got, want := More(s, b[:5], nil, b[5:]), ^bitwise(^s, b); got != want {
			t.Errorf("%08x: %08x, not %08x", s, got, want)
		}
	}
}

func TestTable(t *testing.T) { // P1.3
	got := Table()
	for i, x := range got {
		if want := bitwise(uint32(i), []byte{0}); x != want {
			t.Errorf("%d: %08x, not %08x", i, x, want)
		}
	}
	if got[0] != 0 || got[1] != 0x77073096 || got[255] != 0x2D02EF8D {
		t.Error("table's edges")
	}
	got[3] = 5
	if Table()[3] == 5 {
		t.Error("a table is shared")
	}
}

func TestPartsMakeNoDifference(t *testing.T) { // P1.4
	b := some(40, 9)
	whole := Sum(b)
	for i := range len(b) + 1 {
		for j := i; j <= len(b); j++ {
			if Sum(b[:i], b[i:j], b[j:]) != whole || More(Sum(b[:i]), b[i:j], b[j:]) != whole {
				t.Fatalf("parted at %d, %d", i, j)
			}
		}
	}
}

func turned(b []byte, bits ...int) []byte {
	c := append([]byte(nil), b...)
	for _, k := range bits {
		c[k/8] ^= 1 << (k % 8)
	}
	return c
}

func TestTurnedBitsAreSeen(t *testing.T) { // P1.4
	b := some(4200, 3)
	whole := Sum(b)
	for k := 0; k < 8*len(b); k += 61 {
		if Sum(turned(b, k)) == whole {
			t.Fatalf("bit %d", k)
		}
	}
	for _, far := range []int{1, 2, 7, 8, 31, 32, 33, 1000, 32766, 32767} {
		if Sum(turned(b, 5, 5+far)) == whole {
			t.Fatalf("two bits, %d from each other", far)
		}
	}
	for k := uint32(1); k < 3000; k++ { // a burst within 32 bits
		c := append([]byte(nil), b...)
		m := k * 2654435761
		for i := range 4 {
			c[100+i] ^= byte(m >> (8 * i))
		}
		if Sum(c) == whole {
			t.Fatalf("burst %08x", m)
		}
	}
}

func TestArgumentsStay(t *testing.T) { // R3
	b := some(9, 1)
	Sum(b)
	More(3, b)
	for i, x := range some(9, 1) {
		if b[i] != x {
			t.Error("an argument was changed")
		}
	}
}

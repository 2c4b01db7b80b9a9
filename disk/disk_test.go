package disk_test

import (
	"bytes"
	"math"
	"slices"
	"strings"
	"testing"

	"watershed/api"
	. "watershed/disk"
)

func ok(t *testing.T, err api.Errno) {
	t.Helper()
	if err != api.OK {
		t.Fatalf("error %d", err)
	}
}

func has(t *testing.T, d *Disk, name, want string) {
	t.Helper()
	if b, is := d.Read(name); !is || string(b) != want {
		t.Errorf("%s: %q, %v, not %q", name, b, is, want)
	}
}

// wrote is a disk with a: 12 4, b: 3, in that order of pieces: 12 of a, 3 of b, 4 of a.
func wrote(t *testing.T) *Disk {
	d := New(0)
	ok(t, d.Append("a", []byte("1"), nil, []byte("2")))
	ok(t, d.Append("b", []byte("3")))
	ok(t, d.Append("a", []byte("4")))
	return d
}

func TestNewCopyNamesRead(t *testing.T) { // P7.1
	d := wrote(t)
	ok(t, d.Append("0"))
	if l := d.Names(); !slices.Equal(l, []string{"0", "a", "b"}) || len(New(0).Names()) != 0 {
		t.Errorf("%v", l)
	}
	has(t, d, "a", "124")
	has(t, d, "0", "")
	if b, is := d.Read("c"); is || len(b) > 0 {
		t.Error("a file that there is not")
	}
	if b, is := d.Read(""); is || len(b) > 0 {
		t.Error("a file without a name")
	}
	c := d.Copy()
	if c.Waits() != 4 {
		t.Errorf("%d wait", c.Waits())
	}
	b, _ := d.Read("a")
	b[0] = 'x'
	ok(t, c.Append("a", []byte("5")))
	ok(t, c.Remove("b"))
	has(t, d, "a", "124")
	has(t, d, "b", "3")
	c.Crash(0)
	has(t, c, "a", "")
	d.Crash(3)
	has(t, d, "a", "12")
	has(t, d, "b", "3")
}

func TestCopyHasTheSize(t *testing.T) { // P7.1
	d := New(3)
	ok(t, d.Append("a", []byte("12")))
	c := d.Copy()
	if c.Append("a", []byte("34")) != api.ErrFull || c.Append("a", []byte("3")) != api.OK {
		t.Error("the copy's size")
	}
	has(t, d, "a", "12")
}

func TestAppend(t *testing.T) { // P7.2
	d := New(4)
	parts := [][]byte{[]byte("ab")}
	ok(t, d.Append("a", parts...))
	parts[0][0] = 'x'
	has(t, d, "a", "ab")
	for _, name := range []string{"", strings.Repeat("n", 41)} {
		if d.Append(name, []byte("a")) != api.ErrArg || d.Append(name, make([]byte, 9)) != api.ErrArg {
			t.Errorf("%q is no name", name)
		}
	}
	if d.Append("b", []byte("ab"), []byte("c")) != api.ErrFull || len(d.Names()) != 1 || d.Waits() != 2 {
		t.Error("a full disk")
	}
	ok(t, d.Append(strings.Repeat("n", 40), []byte("cd")))
	ok(t, d.Append("empty"))
	if d.Waits() != 4 || d.Append("a", []byte("x")) != api.ErrFull {
		t.Error("a full disk")
	}
	for _, size := range []int{0, -1, math.MinInt} {
		ok(t, New(size).Append("a", make([]byte, 100)))
	}
	if New(1).Append("a", []byte("xy")) != api.ErrFull || New(1).Append("a", []byte("x")) != api.OK {
		t.Error("a disk of one byte")
	}
}

func TestSync(t *testing.T) { // P7.2
	d := wrote(t)
	ok(t, d.Sync())
	if d.Waits() != 4 {
		t.Error("nothing was synced")
	}
	ok(t, d.Sync("a"))
	if d.Waits() != 1 {
		t.Errorf("%d wait", d.Waits())
	}
	d.Crash(0)
	has(t, d, "a", "124")
	has(t, d, "b", "")
	e := wrote(t)
	if e.Sync("b", "c", "a") != api.ErrNone || e.Waits() != 3 {
		t.Error("those ahead are done, the others not")
	}
}

func TestCut(t *testing.T) { // P7.3
	d := wrote(t)
	for n, err := range map[int]api.Errno{-1: api.ErrArg, 4: api.ErrArg, 3: api.OK} {
		if got := d.Cut("a", n); got != err || d.Waits() != 4 {
			t.Errorf("cut at %d: %d", n, got)
		}
	}
	if d.Cut("c", -1) != api.ErrNone {
		t.Error("a file that there is not")
	}
	ok(t, d.Cut("a", 1))
	has(t, d, "a", "1")
	if d.Waits() != 2 {
		t.Errorf("%d wait", d.Waits())
	}
	ok(t, d.Append("a", []byte("56")))
	d.Crash(3)
	has(t, d, "a", "15")
	has(t, d, "b", "3")
	ok(t, d.Append("a", []byte("7")))
	ok(t, d.Cut("a", 1)) // into what is safe
	if d.Waits() != 0 {
		t.Error("what was cut waits")
	}
	d.Crash(9)
	has(t, d, "a", "1")
}

func TestCutKeepsWhatWaits(t *testing.T) { // P7.3
	d := wrote(t)
	ok(t, d.Cut("a", 2))
	d.Crash(1)
	has(t, d, "a", "1")
	has(t, d, "b", "")
}

func TestRename(t *testing.T) { // P7.3
	d := wrote(t)
	ok(t, d.Append("c", []byte("99")))
	for _, to := range []string{"", strings.Repeat("n", 41)} {
		if d.Rename("a", to) != api.ErrArg || d.Rename("x", to) != api.ErrNone {
			t.Error("a name that is none")
		}
	}
	ok(t, d.Rename("a", "a"))
	if d.Waits() != 6 {
		t.Error("nothing happens, if both are one")
	}
	ok(t, d.Rename("a", "c"))
	if !slices.Equal(d.Names(), []string{"b", "c"}) || d.Waits() != 4 {
		t.Errorf("%v, %d", d.Names(), d.Waits())
	}
	d.Crash(3)
	has(t, d, "c", "12")
	has(t, d, "b", "3")
	e := wrote(t)
	ok(t, e.Sync("b"))
	ok(t, e.Rename("b", "a"))
	e.Crash(0)
	has(t, e, "a", "3")
	if len(e.Names()) != 1 {
		t.Error("the other one is gone")
	}
}

func TestRenameLeavesOthers(t *testing.T) { // P7.3
	for keep, want := range map[int][2]string{0: {"", ""}, 1: {"1", ""}, 2: {"12", ""}, 3: {"12", "3"}, 4: {"124", "3"}} {
		d := wrote(t)
		ok(t, d.Rename("a", "c"))
		d.Crash(keep)
		has(t, d, "c", want[0])
		has(t, d, "b", want[1])
		e := wrote(t)
		ok(t, e.Rename("b", "c"))
		e.Crash(keep)
		has(t, e, "a", want[0])
		has(t, e, "c", want[1])
	}
}

func TestCopySharesNothing(t *testing.T) { // P7.1
	d := wrote(t)
	c := d.Copy()
	ok(t, d.Cut("a", 1))
	ok(t, d.Append("a", []byte("xyz")))
	ok(t, d.Sync("b"))
	c.Crash(3)
	has(t, c, "a", "12")
	has(t, c, "b", "3")
	e := wrote(t)
	f := e.Copy()
	ok(t, f.Cut("a", 0))
	ok(t, f.Append("a", []byte("xyz")))
	has(t, e, "a", "124")
	e.Crash(2)
	has(t, e, "a", "12")
}

func TestCutEdges(t *testing.T) { // P7.3
	d := wrote(t)
	ok(t, d.Cut("a", 0))
	has(t, d, "a", "")
	ok(t, d.Cut("a", 0))
	if d.Cut("a", 1) != api.ErrArg || d.Waits() != 1 {
		t.Error("an empty file")
	}
}

func TestRemove(t *testing.T) { // P7.3
	d := wrote(t)
	if d.Remove("b", "x", "a") != api.ErrNone || !slices.Equal(d.Names(), []string{"a"}) || d.Waits() != 3 {
		t.Error("those ahead are done, the others not")
	}
	ok(t, d.Append("b", []byte("5")))
	d.Crash(3)
	has(t, d, "a", "124")
	has(t, d, "b", "")
	if d.Remove("a", "a") != api.ErrNone || d.Remove() != api.OK {
		t.Error("twice")
	}
	full := New(2)
	ok(t, full.Append("a", []byte("12")))
	ok(t, full.Remove("a"))
	ok(t, full.Append("b", []byte("12")))
}

func TestCrash(t *testing.T) { // P7.4
	for keep, want := range map[int][2]string{math.MinInt: {"", ""}, -1: {"", ""}, 0: {"", ""}, 1: {"1", ""}, 2: {"12", ""}, 3: {"12", "3"}, 4: {"124", "3"}, 5: {"124", "3"}, math.MaxInt: {"124", "3"}} {
		d := wrote(t)
		d.Crash(keep)
		has(t, d, "a", want[0])
		has(t, d, "b", want[1])
		if d.Waits() != 0 {
			t.Error("what is left is safe")
		}
		d.Crash(0)
		has(t, d, "a", want[0])
	}
	d := wrote(t)
	ok(t, d.Sync("a"))
	ok(t, d.Append("a", []byte("56")))
	d.Crash(2)
	has(t, d, "a", "1245")
	ok(t, d.Append("a", []byte("7")))
	has(t, d, "a", "12457")
}

func TestNone(t *testing.T) { // P7.5
	for _, d := range []*Disk{nil, {}} {
		b, is := d.Read("a")
		if d.Copy() != nil || len(d.Names()) > 0 || is || len(b) > 0 || d.Waits() != 0 {
			t.Error("a disk that is none")
		}
		d.Crash(1)
		if d.Append("") != api.ErrNil || d.Sync() != api.ErrNil || d.Sync("a") != api.ErrNil || d.Cut("a", -1) != api.ErrNil || d.Rename("a", "") != api.ErrNil || d.Remove("a") != api.ErrNil || d.Remove() != api.ErrNil {
			t.Error("ErrNil is ahead of all")
		}
	}
}

func TestAllGoesOn(t *testing.T) { // P7.6
	d, seed := New(60), uint32(1)
	next := func(n int) int {
		seed = seed*1664525 + 1013904223
		return int(seed>>16) % n
	}
	names := []string{"a", "b", "c"}
	safe := map[string][]byte{}
	for range 5000 {
		name := names[next(3)]
		switch next(6) {
		case 0, 1, 2:
			d.Append(name, make([]byte, next(5)), []byte{byte(next(256))})
		case 3:
			if d.Sync(name) == api.OK {
				safe[name], _ = d.Read(name)
			}
		case 4:
			b, _ := d.Read(name)
			if n := next(len(b) + 1); d.Cut(name, n) == api.OK {
				safe[name] = safe[name][:min(n, len(safe[name]))]
			}
		default:
			was := d.Copy()
			d.Crash(next(20) - 2)
			for _, name := range d.Names() {
				b, _ := d.Read(name)
				before, _ := was.Read(name)
				if !bytes.HasPrefix(before, b) || !bytes.HasPrefix(b, safe[name]) {
					t.Fatalf("%s: %v of %v, safe %v", name, b, before, safe[name])
				}
				safe[name] = b
			}
			if !slices.Equal(d.Names(), was.Names()) {
				t.Fatal("files come and go")
			}
		}
		n := 0
		for _, name := range d.Names() {
			b, _ := d.Read(name)
			n += len(b)
		}
		if n > 60 {
			t.Fatal("more than the size")
		}
	}
}

package image_test

import (
	"bytes"
	"slices"
	"testing"

	"watershed/api"
	"watershed/disk"
	"watershed/frame"
	. "watershed/image"
)

func some(index int, s string) api.Image {
	return api.Image{Base: api.Base{Index: index, Term: 2, Config: api.Config{Voters: []int{1, 3}}}, Bytes: []byte(s)}
}

func same(a, b api.Image) bool {
	x, errX := Bytes(a)
	y, errY := Bytes(b)
	return errX == errY && bytes.Equal(x, y)
}

func is(t *testing.T, d *disk.Disk, want api.Image) {
	t.Helper()
	if x, ok, err := Load(d, 1); !ok || err != api.OK || !same(x, want) {
		t.Errorf("%v, %v, %d", x, ok, err)
	}
}

func TestBytesAndGet(t *testing.T) { // P9.1
	b, err := Bytes(some(300, "ab"))
	if err != api.OK || !bytes.Equal(b, []byte{172, 2, 2, 2, 1, 3, 0, 0, 0, 2, 97, 98}) {
		t.Errorf("%v, %d", b, err)
	}
	if x, ok := Get(b); !ok || x.Base.Index != 300 || x.Base.Term != 2 || !slices.Equal(x.Base.Config.Voters, []int{1, 3}) || string(x.Bytes) != "ab" {
		t.Errorf("%v", x)
	}
	full := some(api.MaxIndex, string(make([]byte, api.MaxImage)))
	b, err = Bytes(full)
	if x, ok := Get(b); err != api.OK || !ok || !same(x, full) {
		t.Error("the longest")
	}
	for i := range 10 {
		if x, ok := Get([]byte{1, 2, 1, 3, 0, 0, 0, 2, 97, 98}[:i]); ok || !same(x, api.Image{}) {
			t.Errorf("%d bytes: %v", i, x)
		}
	}
	for _, b := range [][]byte{{1, 2, 0, 0, 0, 0, 0, 7}, {1, 2, 1, 6, 0, 0, 0, 0}, {1, 2, 0, 0, 0, 0, 129, 128, 8}} {
		if x, ok := Get(append(b, make([]byte, 1)...)); ok || !same(x, api.Image{}) {
			t.Errorf("%v: %v", b, x)
		}
	}
	tooLong := append([]byte{1, 2, 0, 0, 0, 0, 129, 128, 8}, make([]byte, api.MaxImage+1)...)
	if _, ok := Get(tooLong); ok {
		t.Error("more than MaxImage bytes")
	}
}

func wrong() []struct {
	x   api.Image
	err api.Errno
} {
	long := make([]byte, api.MaxImage+1)
	return []struct {
		x   api.Image
		err api.Errno
	}{
		{some(-1, ""), api.ErrArg}, {some(api.MaxIndex+1, ""), api.ErrArg}, {api.Image{Base: api.Base{Term: -1}}, api.ErrArg}, {api.Image{Base: api.Base{Term: api.MaxTerm + 1}, Bytes: long}, api.ErrArg},
		{api.Image{Base: api.Base{Config: api.Config{Old: []int{6}}}}, api.ErrArg}, {some(1, string(long)), api.ErrLong},
	}
}

func TestWrong(t *testing.T) { // P9.1, P9.2
	d := disk.New(0)
	for i, c := range wrong() {
		if b, err := Bytes(c.x); err != c.err || len(b) > 0 {
			t.Errorf("%d: %d", i, err)
		}
		if err := Save(d, 1, c.x); err != c.err || len(d.Names()) > 0 {
			t.Errorf("%d: %d", i, err)
		}
		if err := Save(d, 5, c.x); err != api.ErrArg {
			t.Errorf("%d: %d", i, err)
		}
	}
}

func TestEdges(t *testing.T) { // P9.1
	for _, b := range []api.Base{{}, {Index: api.MaxIndex}, {Term: api.MaxTerm}, {Index: 1, Term: 1, Config: api.Config{Want: []int{5}}}} {
		if data, err := Bytes(api.Image{Base: b}); err != api.OK || len(data) == 0 {
			t.Errorf("%v: %d", b, err)
		}
	}
	for _, b := range []api.Base{{Index: -1}, {Term: -1}, {Index: api.MaxIndex + 1}, {Term: api.MaxTerm + 1}, {Config: api.Config{Want: []int{2, 1}}}} {
		if data, err := Bytes(api.Image{Base: b}); err != api.ErrArg || len(data) > 0 {
			t.Errorf("%v: %d", b, err)
		}
	}
}

func TestErrors(t *testing.T) { // P9.2, P9.3
	for _, d := range []*disk.Disk{nil, {}} {
		if err := Save(d, 9, some(-1, "")); err != api.ErrNil {
			t.Errorf("%d", err)
		}
		if x, ok, err := Load(d, 9); ok || err != api.ErrNil || !same(x, api.Image{}) {
			t.Errorf("%d", err)
		}
	}
	for _, g := range []int{-1, 5} {
		if err := Save(disk.New(0), g, some(1, "")); err != api.ErrArg {
			t.Errorf("%d", err)
		}
		if _, ok, err := Load(disk.New(0), g); ok || err != api.ErrArg {
			t.Errorf("%d", err)
		}
	}
}

func TestSave(t *testing.T) { // P9.2
	d := disk.New(0)
	d.Append("other", []byte("waits"))
	d.Append("image.1.new", []byte("left by a crash"))
	if err := Save(d, 1, some(3, "abc")); err != api.OK {
		t.Fatalf("%d", err)
	}
	data, _ := Bytes(some(3, "abc"))
	want, _ := frame.Put(frame.Frame{Kind: 4, Data: data})
	if b, _ := d.Read("image.1"); !bytes.Equal(b, want) || !slices.Equal(d.Names(), []string{"image.1", "other"}) || d.Waits() != 5 {
		t.Errorf("%v, %v, %d", b, d.Names(), d.Waits())
	}
	d.Crash(0)
	is(t, d, some(3, "abc"))
	if Save(d, 0, some(1, "")) != api.OK || Save(d, 4, some(2, "")) != api.OK || Save(d, 1, some(2, "x")) != api.OK {
		t.Error("other groups")
	}
	is(t, d, some(2, "x"))
}

func TestFull(t *testing.T) { // P9.2
	d := disk.New(80)
	if Save(d, 1, some(1, "some bytes")) != api.OK {
		t.Fatal("there is room")
	}
	d.Append("image.1.new", make([]byte, 20))
	if err := Save(d, 1, some(2, string(make([]byte, 60)))); err != api.ErrFull || !slices.Equal(d.Names(), []string{"image.1"}) {
		t.Errorf("%d, %v", err, d.Names())
	}
	is(t, d, some(1, "some bytes"))
	if Save(d, 1, some(2, "other byte")) != api.OK {
		t.Error("there is room for both")
	}
	is(t, d, some(2, "other byte"))
}

func TestLoad(t *testing.T) { // P9.3
	d := disk.New(0)
	if x, ok, err := Load(d, 1); ok || err != api.OK || !same(x, api.Image{}) {
		t.Error("of no file")
	}
	data, _ := Bytes(some(1, "a"))
	good, _ := frame.Put(frame.Frame{Kind: 4, Data: data})
	other, _ := frame.Put(frame.Frame{Kind: 3, Data: data})
	less, _ := frame.Put(frame.Frame{Kind: 4, Data: data[:len(data)-1]})
	for i, b := range [][]byte{{}, good[:len(good)-1], append(slices.Clone(good), 0), append(slices.Clone(good), good...), other, less} {
		d := disk.New(0)
		d.Append("image.1", b)
		if x, ok, err := Load(d, 1); ok || err != api.ErrHalt || !same(x, api.Image{}) {
			t.Errorf("%d: %d", i, err)
		}
	}
	d.Append("image.1", good)
	is(t, d, some(1, "a"))
}

func TestStays(t *testing.T) { // P9.4
	for keep := range 60 {
		d := disk.New(0)
		Save(d, 1, some(1, "one"))
		d.Append("image.1.new", make([]byte, 30))
		d.Crash(keep)
		is(t, d, some(1, "one"))
		Save(d, 1, some(2, "two"))
		d.Append("x", []byte("y"))
		d.Crash(keep)
		is(t, d, some(2, "two"))
	}
}

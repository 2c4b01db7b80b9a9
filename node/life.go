package node

import (
	"watershed/api"
	"watershed/disk"
	"watershed/frame"
	"watershed/wire"
)

const (
	lifeFile = "life"
	mostLife = 1 << 29
)

// lastLife is the life that was kept last.
func lastLife(d *disk.Disk) (int, api.Errno) {
	b, _ := d.Read(lifeFile)
	l, whole := frame.Get(b)
	if whole < len(b) {
		d.Cut(lifeFile, whole)
	}
	if len(l) == 0 {
		return 0, api.OK
	}
	last := l[len(l)-1]
	r := wire.NewReader(last.Data)
	life := r.Number(1<<62 - 1)
	if last.Kind != 0 || r.End() != api.OK {
		return 0, api.ErrHalt
	}
	return life, api.OK
}

// newLife is the next life, which is kept.
func newLife(d *disk.Disk) (int, api.Errno) {
	life, err := lastLife(d)
	if err != api.OK {
		return 0, err
	}
	if life >= mostLife {
		return 0, api.ErrHalt
	}
	life++
	data, _ := wire.NewWriter().Numbers(life).Done()
	b, _ := frame.Put(frame.Frame{Data: data})
	if err := d.Append(lifeFile, b); err != api.OK {
		return 0, err
	}
	return life, d.Sync(lifeFile)
}

// Package sum is layer 1: checksums of bytes. See shared/doc/01-sum.md.
package sum

// steps has, of each four bits (as the lowest ones), what four fed bits that are 0 make of them.
var steps = [16]uint32{
	0x00000000, 0x1DB71064, 0x3B6E20C8, 0x26D930AC,
	0x76DC4190, 0x6B6B51F4, 0x4DB26158, 0x5005713C,
	0xEDB88320, 0xF00F9344, 0xD6D6A3E8, 0xCB61B38C,
	0x9B64C2B0, 0x86D3D2D4, 0xA00AE278, 0xBDBDF21C,
}

// register is 32 bits that bytes are fed to.
type register struct{ bits uint32 }

// zeros feeds four bits that are 0.
func (r *register) zeros() { r.bits = r.bits>>4 ^ steps[r.bits&15] }

// feed feeds a byte: its bits turn the lowest ones ahead of eight bits that are 0.
func (r *register) feed(b byte) {
	r.bits ^= uint32(b)
	r.zeros()
	r.zeros()
}

// soFar is what is summed so far; its sum is the register, each bit turned.
type soFar struct{ register }

func behind(sum uint32) *soFar { return &soFar{register{^sum}} }

func (s *soFar) sum() uint32 { return ^s.bits }

// Sum is the sum of all bytes of parts.
func Sum(parts ...[]byte) uint32 { return More(0, parts...) }

// More is what sum becomes with all bytes of parts behind.
func More(sum uint32, parts ...[]byte) uint32 {
	s := behind(sum)
	for _, p := range parts {
		for _, b := range p {
			s.feed(b)
		}
	}
	return s.sum()
}

// Table has of each byte what it becomes, fed eight bits that are 0.
func Table() [256]uint32 {
	var t [256]uint32
	for i := range t {
		r := register{uint32(i)}
		r.feed(0)
		t[i] = r.bits
	}
	return t
}

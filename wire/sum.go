package wire

// turned is what the register is put against when the bit that fell out was 1.
const turned = 0xedb88320

// sums has, for each byte, what the register becomes of it in eight moves. It
// is made by each face once, so that many chunks are summed by one.
type sums [256]uint32

func made() sums {
	var s sums
	for i := range s {
		register := uint32(i)
		for range 8 {
			fell := register & 1
			register >>= 1
			register ^= fell * turned
		}
		s[i] = register
	}
	return s
}

// Sum is the CRC-32 of IEEE 802.3.
func Sum(b []byte) uint32 {
	s := made()
	return s.of(b)
}

func (s *sums) of(b []byte) uint32 {
	register := ^uint32(0)
	for _, x := range b {
		low := byte(register) ^ x
		register >>= 8
		register ^= s[low]
	}
	return ^register
}

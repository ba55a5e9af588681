package crc

// A number of 32 bits is also a polynomial, whose highest bit is the lowest power: to halve it is to multiply it by x. So a byte of 0 that goes through a register multiplies it by x to the 8th, and many of them by a power of that, which is found without going through them one by one.

// rest is what is put in when a bit is halved away: x to the 32nd.
const rest uint32 = 0xEDB88320

// unit is 1, and nought a byte of 0, as polynomials.
const (
	unit   uint32 = 1 << 31
	nought uint32 = unit >> 8
)

func halved(number uint32) uint32 {
	return number>>1 ^ rest*(number&1)
}

func times(a, b uint32) uint32 {
	product := uint32(0)
	for ; a != 0; a <<= 1 {
		product ^= b * (a >> 31)
		b = halved(b)
	}
	return product
}

// noughts is so many bytes of 0, as a polynomial.
func noughts(long int) uint32 {
	product, power := unit, nought
	for ; long > 0; long >>= 1 {
		if long&1 == 1 {
			product = times(product, power)
		}
		power = times(power, power)
	}
	return product
}

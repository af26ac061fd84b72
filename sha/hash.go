package sha

import "math/bits"

const (
	blockSize = 64 // bytes
	wordSize  = 4  // bytes
	words     = 8  // of a state
	rounds    = 64
	filler    = 0x80          // the first byte behind the texts
	lengthAt  = blockSize - 8 // where in the last block their length in bits stands
)

// The starting state: the square roots of the first primes, behind the point.
var start = [words]uint32{
	0x6a09e667, 0xbb67ae85, 0x3c6ef372, 0xa54ff53a, 0x510e527f, 0x9b05688c, 0x1f83d9ab, 0x5be0cd19,
}

// The rounds' constants: the cube roots of the first primes, behind the point.
var roots = [rounds]uint32{
	0x428a2f98, 0x71374491, 0xb5c0fbcf, 0xe9b5dba5, 0x3956c25b, 0x59f111f1, 0x923f82a4, 0xab1c5ed5,
	0xd807aa98, 0x12835b01, 0x243185be, 0x550c7dc3, 0x72be5d74, 0x80deb1fe, 0x9bdc06a7, 0xc19bf174,
	0xe49b69c1, 0xefbe4786, 0x0fc19dc6, 0x240ca1cc, 0x2de92c6f, 0x4a7484aa, 0x5cb0a9dc, 0x76f988da,
	0x983e5152, 0xa831c66d, 0xb00327c8, 0xbf597fc7, 0xc6e00bf3, 0xd5a79147, 0x06ca6351, 0x14292967,
	0x27b70a85, 0x2e1b2138, 0x4d2c6dfc, 0x53380d13, 0x650a7354, 0x766a0abb, 0x81c2c92e, 0x92722c85,
	0xa2bfe8a1, 0xa81a664b, 0xc24b8b70, 0xc76c51a3, 0xd192e819, 0xd6990624, 0xf40e3585, 0x106aa070,
	0x19a4c116, 0x1e376c08, 0x2748774c, 0x34b0bcb5, 0x391c0cb3, 0x4ed8aa4a, 0x5b9cca4f, 0x682e6ff3,
	0x748f82ee, 0x78a5636f, 0x84c87814, 0x8cc70208, 0x90befffa, 0xa4506ceb, 0xbef9a3f7, 0xc67178f2,
}

// A hash takes texts in, one behind the other, and keeps less than a block of them.
type hash struct {
	state [words]uint32
	block [blockSize]byte
	size  uint64 // of all texts, in bytes
}

func newHash() *hash {
	return &hash{state: start}
}

func (x *hash) write(s string) {
	for s != "" {
		at := x.size % blockSize
		n := copy(x.block[at:], s)
		x.size += uint64(n)
		s = s[n:]
		if x.size%blockSize == 0 {
			x.mix()
		}
	}
}

func (x *hash) writeByte(b byte) {
	x.block[x.size%blockSize] = b
	x.size++
	if x.size%blockSize == 0 {
		x.mix()
	}
}

// writeNum in so many bytes, the highest first.
func (x *hash) writeNum(n uint64, size int) {
	for i := range size {
		x.writeByte(byte(n >> (8 * (size - 1 - i))))
	}
}

// sum ends the texts: nothing is written behind it.
func (x *hash) sum() string {
	length := 8 * x.size
	x.writeByte(filler)
	for x.size%blockSize != lengthAt {
		x.writeByte(0)
	}
	x.writeNum(length, blockSize-lengthAt)
	var b [Size]byte
	for i, w := range x.state {
		for j := range wordSize {
			b[wordSize*i+j] = byte(w >> (8 * (wordSize - 1 - j)))
		}
	}
	return string(b[:])
}

// mix takes the full block into the state.
func (x *hash) mix() {
	w := x.schedule()
	a, b, c, d, e, f, g, h := x.state[0], x.state[1], x.state[2], x.state[3], x.state[4], x.state[5], x.state[6], x.state[7]
	for i := range rounds {
		s1 := bits.RotateLeft32(e, -6) ^ bits.RotateLeft32(e, -11) ^ bits.RotateLeft32(e, -25)
		t1 := h + s1 + (e&f ^ ^e&g) + roots[i] + w[i]
		s0 := bits.RotateLeft32(a, -2) ^ bits.RotateLeft32(a, -13) ^ bits.RotateLeft32(a, -22)
		t2 := s0 + (a&b ^ a&c ^ b&c)
		a, b, c, d, e, f, g, h = t1+t2, a, b, c, d+t1, e, f, g
	}
	for i, v := range [words]uint32{a, b, c, d, e, f, g, h} {
		x.state[i] += v
	}
}

// schedule spreads the block over the rounds.
func (x *hash) schedule() [rounds]uint32 {
	var w [rounds]uint32
	for i := range blockSize / wordSize {
		for j := range wordSize {
			w[i] = w[i]<<8 | uint32(x.block[wordSize*i+j])
		}
	}
	for i := blockSize / wordSize; i < rounds; i++ {
		s0 := bits.RotateLeft32(w[i-15], -7) ^ bits.RotateLeft32(w[i-15], -18) ^ w[i-15]>>3
		s1 := bits.RotateLeft32(w[i-2], -17) ^ bits.RotateLeft32(w[i-2], -19) ^ w[i-2]>>10
		w[i] = w[i-16] + s0 + w[i-7] + s1
	}
	return w
}

package code

import (
	"math/bits"
	"strings"
)

// The digest goes block by block; the last block ends by the number of all bits.
const (
	blockSize = 64
	countSize = 8
)

// firstWords are the first 32 bits behind the point of the square roots of the first 8 primes.
var firstWords = [8]uint32{
	0x6a09e667, 0xbb67ae85, 0x3c6ef372, 0xa54ff53a, 0x510e527f, 0x9b05688c, 0x1f83d9ab, 0x5be0cd19,
}

// roundWords are the first 32 bits behind the point of the cube roots of the first 64 primes.
var roundWords = [64]uint32{
	0x428a2f98, 0x71374491, 0xb5c0fbcf, 0xe9b5dba5, 0x3956c25b, 0x59f111f1, 0x923f82a4, 0xab1c5ed5,
	0xd807aa98, 0x12835b01, 0x243185be, 0x550c7dc3, 0x72be5d74, 0x80deb1fe, 0x9bdc06a7, 0xc19bf174,
	0xe49b69c1, 0xefbe4786, 0x0fc19dc6, 0x240ca1cc, 0x2de92c6f, 0x4a7484aa, 0x5cb0a9dc, 0x76f988da,
	0x983e5152, 0xa831c66d, 0xb00327c8, 0xbf597fc7, 0xc6e00bf3, 0xd5a79147, 0x06ca6351, 0x14292967,
	0x27b70a85, 0x2e1b2138, 0x4d2c6dfc, 0x53380d13, 0x650a7354, 0x766a0abb, 0x81c2c92e, 0x92722c85,
	0xa2bfe8a1, 0xa81a664b, 0xc24b8b70, 0xc76c51a3, 0xd192e819, 0xd6990624, 0xf40e3585, 0x106aa070,
	0x19a4c116, 0x1e376c08, 0x2748774c, 0x34b0bcb5, 0x391c0cb3, 0x4ed8aa4a, 0x5b9cca4f, 0x682e6ff3,
	0x748f82ee, 0x78a5636f, 0x84c87814, 0x8cc70208, 0x90befffa, 0xa4506ceb, 0xbef9a3f7, 0xc67178f2,
}

// Sum tells the digest of bytes, 32 bytes.
func Sum(s string) string {
	whole := len(s) - len(s)%blockSize
	h := addBlocks(firstWords, s[:whole])
	// The ending is put to what is left alone, so that a long text is not copied.
	h = addBlocks(h, s[whole:]+ending(len(s)))
	var b strings.Builder
	for _, w := range h {
		b.WriteString(inBytes(uint64(w), 4))
	}
	return b.String()
}

// ending is what stands behind n bytes, and makes their blocks whole.
func ending(n int) string {
	const mark = "\x80"
	behind := (n + len(mark) + countSize) % blockSize
	zeros := (blockSize - behind) % blockSize
	return mark + strings.Repeat("\x00", zeros) + inBytes(8*uint64(n), countSize)
}

// inBytes writes a number by size bytes, the greatest first.
func inBytes(n uint64, size int) string {
	var b strings.Builder
	for i := range size {
		b.WriteByte(byte(n >> (8 * (size - 1 - i))))
	}
	return b.String()
}

// addBlocks tells what the sums h are behind the blocks that s is of.
func addBlocks(h [8]uint32, s string) [8]uint32 {
	for ; s != ""; s = s[blockSize:] {
		h = addBlock(h, s[:blockSize])
	}
	return h
}

// addBlock tells what the sums h are behind one block more.
func addBlock(h [8]uint32, block string) [8]uint32 {
	turned := h
	for i, w := range schedule(block) {
		turned = turn(turned, roundWords[i]+w)
	}
	for i, w := range turned {
		h[i] += w
	}
	return h
}

// schedule tells the words of a block's turns: its own 16, and 48 that come of those.
func schedule(block string) [64]uint32 {
	var w [64]uint32
	for i := range 16 {
		b := block[4*i:]
		w[i] = uint32(b[0])<<24 | uint32(b[1])<<16 | uint32(b[2])<<8 | uint32(b[3])
	}
	for i := 16; i < len(w); i++ {
		x, y := w[i-15], w[i-2]
		s0 := rot(x, 7) ^ rot(x, 18) ^ x>>3
		s1 := rot(y, 17) ^ rot(y, 19) ^ y>>10
		w[i] = s1 + w[i-7] + s0 + w[i-16]
	}
	return w
}

// turn is one of a block's 64 turns; its word is K's and W's sum. The letters are the chapter's.
func turn(words [8]uint32, word uint32) [8]uint32 {
	a, b, c, d := words[0], words[1], words[2], words[3]
	e, f, g, h := words[4], words[5], words[6], words[7]
	choice := e&f ^ ^e&g
	majority := a&b ^ a&c ^ b&c
	t := h + (rot(e, 6) ^ rot(e, 11) ^ rot(e, 25)) + choice + word
	u := (rot(a, 2) ^ rot(a, 13) ^ rot(a, 22)) + majority
	return [8]uint32{t + u, a, b, c, d + t, e, f, g}
}

// rot turns the bits of x by n to the right.
func rot(x uint32, n int) uint32 {
	return bits.RotateLeft32(x, -n)
}

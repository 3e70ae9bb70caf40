package digest

// sum1 returns the SHA-1 digest of b.
func sum1(b []byte) []byte {
	state := [5]uint32{0x67452301, 0xefcdab89, 0x98badcfe, 0x10325476, 0xc3d2e1f0}
	eachBlock(b, func(block []byte) {
		state = compress1(state, expand1(block))
	})
	return join(state[:]...)
}

// expand1 returns the words W of a block.
func expand1(block []byte) [80]uint32 {
	var w [80]uint32
	for t := range blockWords {
		w[t] = wordAt(block[wordSize*t:])
	}
	for t := blockWords; t < len(w); t++ {
		w[t] = rotateLeft(w[t-3]^w[t-8]^w[t-14]^w[t-16], 1)
	}
	return w
}

// compress1 returns the state after a block with the given words.
func compress1(state [5]uint32, words [80]uint32) [5]uint32 {
	a, b, c, d, e := state[0], state[1], state[2], state[3], state[4]
	for t, w := range words {
		f, k := round1(t, b, c, d)
		x := rotateLeft(a, 5) + f + e + k + w
		a, b, c, d, e = x, a, rotateLeft(b, 30), c, d
	}
	for i, x := range [5]uint32{a, b, c, d, e} {
		state[i] += x
	}
	return state
}

// round1 returns f and k of round t.
func round1(t int, b, c, d uint32) (f, k uint32) {
	switch {
	case t < 20:
		return (b & c) ^ (^b & d), 0x5a827999
	case t < 40:
		return b ^ c ^ d, 0x6ed9eba1
	case t < 60:
		return (b & c) ^ (b & d) ^ (c & d), 0x8f1bbcdc
	}
	return b ^ c ^ d, 0xca62c1d6
}

package digest

const (
	wordSize   = 4  // bytes of a word
	blockSize  = 64 // bytes of a block
	blockWords = blockSize / wordSize
	lengthSize = 8 // bytes of the length at the end of the padding
)

// rotateLeft is used with n from 1 to 31.
func rotateLeft(x uint32, n uint) uint32 {
	return x<<n | x>>(32-n)
}

// rotateRight is used with n from 1 to 31.
func rotateRight(x uint32, n uint) uint32 {
	return x>>n | x<<(32-n)
}

// wordAt returns the word at the beginning of b.
func wordAt(b []byte) uint32 {
	return uint32(b[0])<<24 | uint32(b[1])<<16 | uint32(b[2])<<8 | uint32(b[3])
}

// appendWord returns b followed by the bytes of w.
func appendWord(b []byte, w uint32) []byte {
	return append(b, byte(w>>24), byte(w>>16), byte(w>>8), byte(w))
}

// join returns the bytes of the words.
func join(words ...uint32) []byte {
	b := make([]byte, 0, wordSize*len(words))
	for _, w := range words {
		b = appendWord(b, w)
	}
	return b
}

// eachBlock calls step with each block of the padded message b.
// Only the end of a message is copied to be padded, since messages can be long.
func eachBlock(b []byte, step func(block []byte)) {
	rest := b
	for ; len(rest) >= blockSize; rest = rest[blockSize:] {
		step(rest[:blockSize])
	}
	end := pad(rest, len(b))
	for ; len(end) >= blockSize; end = end[blockSize:] {
		step(end[:blockSize])
	}
}

// pad returns the one or two blocks that consist of the rest of a message
// of size bytes, after its full blocks, and of the padding.
func pad(rest []byte, size int) []byte {
	end := make([]byte, 0, 2*blockSize)
	end = append(end, rest...)
	end = append(end, 128)
	for len(end)%blockSize != blockSize-lengthSize {
		end = append(end, 0)
	}
	bits := uint64(size) * 8
	end = appendWord(end, uint32(bits>>32))
	return appendWord(end, uint32(bits))
}

// Package digest is layer 1: the hash functions, and the frames that all layers hash.
package digest

import (
	"bytes"

	"sealwright/api"
)

// Size returns the length of the digests of an algorithm, or 0 if there is no such algorithm.
func Size(alg int) int {
	switch alg {
	case api.SHA1:
		return 20
	case api.SHA256:
		return 32
	}
	return 0
}

// Sum returns the digest of b, or nil if there is no such algorithm.
func Sum(alg int, b []byte) []byte {
	switch alg {
	case api.SHA1:
		return sum1(b)
	case api.SHA256:
		return sum256(b)
	}
	return nil
}

// Frame returns the lowest byte of tag, followed by each field with its length.
func Frame(tag int, fields ...[]byte) []byte {
	size := 1
	for _, f := range fields {
		size += wordSize + len(f)
	}
	frame := append(make([]byte, 0, size), byte(tag))
	for _, f := range fields {
		frame = appendWord(frame, uint32(len(f)))
		frame = append(frame, f...)
	}
	return frame
}

// Hash returns the SHA-256 digest of a frame.
func Hash(tag int, fields ...[]byte) []byte {
	return Sum(api.SHA256, Frame(tag, fields...))
}

// Collide reports whether a and b differ although the first n bytes of their SHA-256 digests are equal.
func Collide(a, b []byte, n int) bool {
	if n < 0 || n > Size(api.SHA256) || bytes.Equal(a, b) {
		return false
	}
	return bytes.Equal(Sum(api.SHA256, a)[:n], Sum(api.SHA256, b)[:n])
}

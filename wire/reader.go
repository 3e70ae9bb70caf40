package wire

import (
	"math"
	"slices"

	"sealwright/api"
)

// Reader reads a byte form until the first error.
// A nil Reader has no bytes, and it cannot keep an error.
type Reader struct {
	rest []byte // what has not been read
	err  api.Errno
}

// New returns a Reader of b.
func New(b []byte) *Reader {
	// The reads return parts of the copy, so that they share no memory with b.
	return &Reader{rest: slices.Clone(b)}
}

// Uint reads a number of size bytes.
func (r *Reader) Uint(size int) int {
	return attempt(r, r.number, size)
}

// Raw reads n bytes.
func (r *Reader) Raw(n int) []byte {
	return attempt(r, r.bytes, n)
}

// Blob reads a length of at most most, and so many bytes.
func (r *Reader) Blob(most int) []byte {
	return attempt(r, r.blob, most)
}

// Left returns the number of bytes that have not been read.
func (r *Reader) Left() int {
	if r == nil {
		return 0
	}
	return len(r.rest)
}

// Err returns the first error of the reads.
func (r *Reader) Err() api.Errno {
	if r == nil {
		return api.OK
	}
	return r.err
}

// End returns the error of the Reader, or ErrTrailing if there is none and bytes are left.
func (r *Reader) End() api.Errno {
	if r.Err() == api.OK && r.Left() > 0 {
		return api.ErrTrailing
	}
	return r.Err()
}

// attempt returns what read returns for n, unless there is or was an error.
// It takes back what a failed read has consumed, so that read need not care.
func attempt[T any](r *Reader, read func(n int) (T, api.Errno), n int) T {
	var none T
	if r == nil || r.err != api.OK {
		return none
	}
	start := r.rest
	value, err := read(n)
	if err != api.OK {
		r.rest, r.err = start, err
		return none
	}
	return value
}

// number consumes a number of size bytes.
func (r *Reader) number(size int) (int, api.Errno) {
	if !validSize(size) {
		return 0, api.ErrArgument
	}
	b, err := r.bytes(size)
	if err != api.OK {
		return 0, err
	}
	n := uint64(0)
	for _, x := range b {
		n = n<<8 | uint64(x)
	}
	if n > math.MaxInt64 {
		return 0, api.ErrTooLong
	}
	return int(n), api.OK
}

// bytes consumes n bytes.
func (r *Reader) bytes(n int) ([]byte, api.Errno) {
	if n < 0 {
		return nil, api.ErrArgument
	}
	if n > len(r.rest) {
		return nil, api.ErrTruncated
	}
	b := r.rest[:n:n]
	r.rest = r.rest[n:]
	return b, api.OK
}

// blob consumes a length of at most most, and so many bytes.
func (r *Reader) blob(most int) ([]byte, api.Errno) {
	n, err := r.number(lengthSize)
	if err != api.OK {
		return nil, err
	}
	if n > most {
		return nil, api.ErrTooLong
	}
	return r.bytes(n)
}

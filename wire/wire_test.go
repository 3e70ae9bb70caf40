package wire_test

import (
	"bytes"
	"encoding/binary"
	"math"
	"testing"

	"sealwright/wire"
)

const longest = 65535 // bytes of the longest blob

// pattern returns n bytes that differ from their neighbours.
func pattern(n int) []byte {
	b := make([]byte, n)
	for i := range b {
		b[i] = byte(1 + i%251)
	}
	return b
}

// starts are lists to which something is appended.
var starts = [][]byte{nil, {}, {0}, {9, 8, 7}, pattern(100)}

// otherSizes are not sizes of numbers.
var otherSizes = []int{0, -1, -8, 9, 10, 16, 64, 255, 257, 1 << 32, 1<<32 + 1, 1<<61 + 1, math.MinInt, math.MinInt + 1, math.MaxInt}

func TestUintOfExamples(t *testing.T) {
	for _, c := range []struct {
		b       []byte
		size, n int
		want    string
	}{
		{nil, 2, 258, "\x01\x02"},
		{nil, 1, 0, "\x00"},
		{nil, 1, 255, "\xff"},
		{nil, 1, 256, "\x00"},
		{nil, 2, 65535, "\xff\xff"},
		{nil, 2, 65536 + 3, "\x00\x03"},
		{nil, 3, 0x01020304, "\x02\x03\x04"},
		{nil, 4, 1, "\x00\x00\x00\x01"},
		{nil, 8, 0x0102030405060708, "\x01\x02\x03\x04\x05\x06\x07\x08"},
		{nil, 8, math.MaxInt64, "\x7f\xff\xff\xff\xff\xff\xff\xff"},
		{nil, 1, -1, "\xff"},
		{nil, 3, -2, "\xff\xff\xfe"},
		{nil, 8, -256, "\xff\xff\xff\xff\xff\xff\xff\x00"},
		{nil, 8, math.MinInt64, "\x80\x00\x00\x00\x00\x00\x00\x00"},
		{[]byte("ab"), 1, 'c', "abc"},
	} {
		if got := wire.Uint(c.b, c.size, c.n); string(got) != c.want {
			t.Errorf("%x, size %d, %d: %x, want %x", c.b, c.size, c.n, got, c.want)
		}
	}
}

func TestUint(t *testing.T) {
	numbers := []int{math.MinInt, math.MaxInt}
	for shift := range 64 {
		for near := -1; near <= 1; near++ {
			numbers = append(numbers, 1<<shift+near, -(1<<shift)+near)
		}
	}
	for _, b := range starts {
		for _, n := range numbers {
			all := binary.BigEndian.AppendUint64(nil, uint64(n))
			for size := 1; size <= 8; size++ {
				want := append(bytes.Clone(b), all[8-size:]...)
				if got := wire.Uint(b, size, n); !bytes.Equal(got, want) {
					t.Errorf("%x, size %d, %d: %x, want %x", b, size, n, got, want)
				}
			}
		}
	}
}

func TestUintOfOtherSizes(t *testing.T) {
	for _, b := range starts {
		for _, size := range otherSizes {
			if got := wire.Uint(b, size, 258); !bytes.Equal(got, b) {
				t.Errorf("%x, size %d: %x", b, size, got)
			}
		}
	}
}

func TestBlob(t *testing.T) {
	for _, b := range starts {
		for _, n := range []int{0, 1, 2, 255, 256, 257, 300, 4096, longest - 1, longest} {
			x := pattern(n)
			want := append(bytes.Clone(b), byte(n>>8), byte(n))
			want = append(want, x...)
			if got := wire.Blob(b, x); !bytes.Equal(got, want) {
				t.Errorf("%x and a blob of %d bytes: %d bytes, want %d", b, n, len(got), len(want))
			}
		}
	}
	if got := wire.Blob([]byte{5}, nil); string(got) != "\x05\x00\x00" {
		t.Errorf("a nil blob: %x", got)
	}
}

func TestBlobOfMoreThanTheLongest(t *testing.T) {
	for _, n := range []int{longest + 1, longest + 2, 2*longest + 2, 1 << 20} {
		x := pattern(n)
		want := append([]byte("ab\xff\xff"), x[:longest]...)
		if got := wire.Blob([]byte("ab"), x); !bytes.Equal(got, want) {
			t.Errorf("a blob of %d bytes: %d bytes, want %d", n, len(got), len(want))
		}
	}
}

// The lists lie in one piece of memory, which goes on behind each of them.
func TestWritingModifiesNoArgument(t *testing.T) {
	for n := range 40 {
		memory := pattern(100)
		b, x := memory[:n], memory[n/2:n+10]
		for size := -1; size <= 9; size++ {
			wire.Uint(b, size, 0)
		}
		wire.Blob(b, x)
		wire.Blob(b, nil)
		wire.Blob(nil, b)
		if !bytes.Equal(memory, pattern(100)) {
			t.Errorf("%d bytes: the memory has changed", n)
		}
	}
}

// Two forms that begin with the same result do not disturb each other.
func TestWritingToOneResultTwice(t *testing.T) {
	for n := range 40 {
		b := wire.Blob(nil, pattern(n))
		first, second := wire.Uint(b, 2, 0x0101), wire.Uint(b, 2, 0x0202)
		third, fourth := wire.Blob(b, []byte("three")), wire.Blob(b, []byte("four"))
		for _, c := range []struct {
			got  []byte
			want string
		}{
			{first, "\x01\x01"}, {second, "\x02\x02"}, {third, "\x00\x05three"}, {fourth, "\x00\x04four"},
		} {
			if string(c.got) != string(b)+c.want {
				t.Errorf("%d bytes: %x, want %x at the end", n, c.got, c.want)
			}
		}
	}
}

func TestWrittenResultsAreNewMemory(t *testing.T) {
	b, x := []byte("before"), []byte("blob")
	for name, f := range map[string]func() []byte{
		"Uint":             func() []byte { return wire.Uint(b, 3, 7) },
		"Uint of size 0":   func() []byte { return wire.Uint(b, 0, 7) },
		"Blob":             func() []byte { return wire.Blob(b, x) },
		"Blob of nothing":  func() []byte { return wire.Blob(b, nil) },
		"Blob after a nil": func() []byte { return wire.Blob(nil, x) },
	} {
		first := f()
		want := bytes.Clone(first)
		for i := range first {
			first[i] ^= 255
		}
		if !bytes.Equal(f(), want) {
			t.Errorf("%s: a result shares memory with an argument or a result", name)
		}
	}
}

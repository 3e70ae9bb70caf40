package digest_test

import (
	"bytes"
	"crypto/sha1"
	"crypto/sha256"
	"encoding/binary"
	"encoding/hex"
	"math"
	"testing"

	"sealwright/api"
	"sealwright/digest"
)

const block = 64 // bytes of a block

// pattern returns n bytes that differ from block to block.
func pattern(n int) []byte {
	b := make([]byte, n)
	for i := range b {
		b[i] = byte(i*7 + i>>6)
	}
	return b
}

// number returns a message that differs for each i.
func number(i int) []byte {
	return binary.BigEndian.AppendUint64(nil, uint64(i))
}

// others are numbers that are not those of an algorithm.
var others = []int{-1, -2, 2, 3, 20, 32, 256, 257, 1 << 32, 1<<32 + 1, math.MinInt, math.MaxInt}

func TestSize(t *testing.T) {
	if n := digest.Size(api.SHA1); n != 20 {
		t.Errorf("SHA1: %d", n)
	}
	if n := digest.Size(api.SHA256); n != 32 {
		t.Errorf("SHA256: %d", n)
	}
	for _, alg := range others {
		if n := digest.Size(alg); n != 0 {
			t.Errorf("%d: %d", alg, n)
		}
	}
}

func TestSumOfExamples(t *testing.T) {
	long := bytes.Repeat([]byte("a"), 1000000)
	for _, c := range []struct {
		alg     int
		message []byte
		want    string
	}{
		{api.SHA256, nil, "e3b0c44298fc1c149afbf4c8996fb92427ae41e4649b934ca495991b7852b855"},
		{api.SHA256, []byte{}, "e3b0c44298fc1c149afbf4c8996fb92427ae41e4649b934ca495991b7852b855"},
		{api.SHA256, []byte("abc"), "ba7816bf8f01cfea414140de5dae2223b00361a396177a9cb410ff61f20015ad"},
		{api.SHA256, long, "cdc76e5c9914fb9281a1c7e284d73e67f1809a48a497200e046d39ccc7112cd0"},
		{api.SHA1, nil, "da39a3ee5e6b4b0d3255bfef95601890afd80709"},
		{api.SHA1, []byte{}, "da39a3ee5e6b4b0d3255bfef95601890afd80709"},
		{api.SHA1, []byte("abc"), "a9993e364706816aba3e25717850c26c9cd0d89d"},
		{api.SHA1, long, "34aa973cd4c4daa4f61eeb2bdbad27316534016f"},
	} {
		if got := hex.EncodeToString(digest.Sum(c.alg, c.message)); got != c.want {
			t.Errorf("algorithm %d, %d bytes: %s, want %s", c.alg, len(c.message), got, c.want)
		}
	}
}

// The lengths cover every place of the padding in one, two and more blocks.
func TestSumOfLengths(t *testing.T) {
	for n := range 5 * block {
		b := pattern(n)
		want1, want256 := sha1.Sum(b), sha256.Sum256(b)
		if got := digest.Sum(api.SHA1, b); !bytes.Equal(got, want1[:]) {
			t.Errorf("SHA1 of %d bytes: %x, want %x", n, got, want1)
		}
		if got := digest.Sum(api.SHA256, b); !bytes.Equal(got, want256[:]) {
			t.Errorf("SHA256 of %d bytes: %x, want %x", n, got, want256)
		}
	}
}

// The length of this message in bits does not fit in four bytes.
func TestSumOfLongMessage(t *testing.T) {
	if testing.Short() {
		t.Skip("a message of 512 MiB")
	}
	b := make([]byte, 1<<29+1)
	want1, want256 := sha1.Sum(b), sha256.Sum256(b)
	if got := digest.Sum(api.SHA1, b); !bytes.Equal(got, want1[:]) {
		t.Errorf("SHA1: %x, want %x", got, want1)
	}
	if got := digest.Sum(api.SHA256, b); !bytes.Equal(got, want256[:]) {
		t.Errorf("SHA256: %x, want %x", got, want256)
	}
}

func TestSumOfOtherAlgorithms(t *testing.T) {
	for _, alg := range others {
		if got := digest.Sum(alg, []byte("abc")); len(got) != 0 {
			t.Errorf("%d: %x", alg, got)
		}
	}
}

func TestFrame(t *testing.T) {
	for _, c := range []struct {
		tag    int
		fields [][]byte
		want   string
	}{
		{0, nil, "00"},
		{7, nil, "07"},
		{255, nil, "ff"},
		{256, nil, "00"},
		{256 + 7, nil, "07"},
		{1<<40 + 9, nil, "09"},
		{-1, nil, "ff"},
		{math.MinInt, nil, "00"},
		{1, [][]byte{nil}, "0100000000"},
		{1, [][]byte{{}}, "0100000000"},
		{1, [][]byte{{}, nil}, "010000000000000000"},
		{2, [][]byte{{5}}, "020000000105"},
		{1, [][]byte{[]byte("ab"), nil, {255}}, "010000000261620000000000000001ff"},
	} {
		if got := hex.EncodeToString(digest.Frame(c.tag, c.fields...)); got != c.want {
			t.Errorf("tag %d, fields %x: %s, want %s", c.tag, c.fields, got, c.want)
		}
	}
}

// All four bytes of the length of a field count.
func TestFrameOfLongFields(t *testing.T) {
	for _, n := range []int{255, 256, 300, 65535, 65536, 1<<24 + 1<<16 + 513} {
		field := pattern(n)
		want := append([]byte{3}, binary.BigEndian.AppendUint32(nil, uint32(n))...)
		want = append(want, field...)
		want = append(want, 0, 0, 0, 1, 'x')
		if got := digest.Frame(3, field, []byte("x")); !bytes.Equal(got, want) {
			t.Errorf("a field of %d bytes: %d bytes that begin with %x", n, len(got), got[:5])
		}
	}
}

func TestHash(t *testing.T) {
	for _, c := range []struct {
		tag    int
		fields [][]byte
		frame  string
	}{
		{5, [][]byte{[]byte("x"), []byte("yz")}, "\x05\x00\x00\x00\x01x\x00\x00\x00\x02yz"},
		{256 + api.TagChain, [][]byte{nil}, "\x01\x00\x00\x00\x00"},
		{-1, nil, "\xff"},
	} {
		want := sha256.Sum256([]byte(c.frame))
		if got := digest.Hash(c.tag, c.fields...); !bytes.Equal(got, want[:]) {
			t.Errorf("tag %d, fields %q: %x, want %x", c.tag, c.fields, got, want)
		}
	}
}

// common returns how many bytes at the beginning of the digests of a and b are equal.
func common(a, b []byte) int {
	x, y := sha256.Sum256(a), sha256.Sum256(b)
	for i := range x {
		if x[i] != y[i] {
			return i
		}
	}
	return len(x)
}

func TestCollideOfDifferentMessages(t *testing.T) {
	pairs := [][2][]byte{
		{[]byte("a"), []byte("b")},
		{nil, {0}},
		{[]byte("a"), []byte("a\x00")},
		{[]byte("ab"), []byte("a")},
	}
	best := 0
	for i := 1; best < 2; i++ {
		if c := common(number(0), number(i)); c > best {
			best = c
			pairs = append(pairs, [2][]byte{number(0), number(i)}, [2][]byte{number(i), number(0)})
		}
	}
	for _, p := range pairs {
		for n := range 33 {
			want := n <= common(p[0], p[1])
			if got := digest.Collide(p[0], p[1], n); got != want {
				t.Errorf("%x and %x, %d: %v", p[0], p[1], n, got)
			}
		}
	}
}

func TestCollideOfEqualMessages(t *testing.T) {
	for n := -1; n <= 33; n++ {
		if digest.Collide([]byte("abc"), []byte("abc"), n) {
			t.Errorf("abc, %d", n)
		}
		if digest.Collide(nil, []byte{}, n) || digest.Collide([]byte{}, nil, n) || digest.Collide(nil, nil, n) {
			t.Errorf("empty, %d", n)
		}
	}
}

func TestCollideOfOtherLengths(t *testing.T) {
	for _, n := range []int{-1, -32, 33, 64, 256, 1 << 32, math.MinInt, math.MaxInt} {
		if digest.Collide([]byte("a"), []byte("b"), n) {
			t.Error(n)
		}
	}
}

// lists returns all lists of at most most of the fields.
func lists(most int, fields ...[]byte) [][][]byte {
	all := [][][]byte{nil}
	if most == 0 {
		return all
	}
	for _, l := range lists(most-1, fields...) {
		for _, f := range fields {
			all = append(all, append([][]byte{f}, l...))
		}
	}
	return all
}

// Some of the fields look like lengths or like the end of another frame.
func TestFramesAreEqualOnlyForEqualArguments(t *testing.T) {
	seen := map[string]bool{}
	fields := [][]byte{
		nil, {0}, {1}, {0, 0, 0, 0}, {0, 0, 0, 1}, {0, 0, 0, 0, 0},
		[]byte("a"), []byte("ab"), []byte("b"), []byte("a\x00\x00\x00\x01b"),
	}
	for tag := range 3 {
		for _, l := range lists(3, fields...) {
			frame := string(digest.Frame(tag, l...))
			if seen[frame] {
				t.Errorf("tag %d, fields %x: as before", tag, l)
			}
			seen[frame] = true
			if string(digest.Frame(tag-256, l...)) != frame {
				t.Errorf("tag %d, fields %x: not as with the tag less 256", tag, l)
			}
		}
	}
	for tag := 3; tag < 256; tag++ {
		frame := string(digest.Frame(tag))
		if seen[frame] {
			t.Errorf("tag %d: as before", tag)
		}
		seen[frame] = true
	}
}

func TestArgumentsAreNotModified(t *testing.T) {
	for n := range 2*block + 1 {
		memory := pattern(5 * block)
		b := memory[:n]
		fields := [][]byte{b, memory[n : n+1], {9}}
		digest.Sum(api.SHA1, b)
		digest.Sum(api.SHA256, b)
		digest.Frame(1, fields[:2]...)
		digest.Hash(1, fields[:2]...)
		digest.Collide(b, memory[1:n+1], 3)
		if !bytes.Equal(memory, pattern(5*block)) {
			t.Errorf("%d bytes: the memory has changed", n)
		}
		if len(fields[0]) != n || len(fields[1]) != 1 || !bytes.Equal(fields[2], []byte{9}) {
			t.Errorf("%d bytes: the list has changed", n)
		}
	}
}

func TestResultsAreNewMemory(t *testing.T) {
	field := []byte("abc")
	for name, f := range map[string]func() []byte{
		"SHA1":   func() []byte { return digest.Sum(api.SHA1, field) },
		"SHA256": func() []byte { return digest.Sum(api.SHA256, field) },
		"Frame":  func() []byte { return digest.Frame(1, field) },
		"Hash":   func() []byte { return digest.Hash(1, field) },
	} {
		first := f()
		want := bytes.Clone(first)
		for i := range first {
			first[i] ^= 255
		}
		if !bytes.Equal(f(), want) {
			t.Errorf("%s: a result depends on an earlier one", name)
		}
	}
	if string(field) != "abc" {
		t.Error("a result shares memory with an argument")
	}
}

func BenchmarkHash(b *testing.B) {
	node := pattern(16)
	for b.Loop() {
		digest.Hash(api.TagChain, []byte{1, 2, 3}, node)
	}
}

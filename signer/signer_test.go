package signer_test

import (
	"bytes"
	"crypto/hmac"
	"crypto/sha256"
	"encoding/binary"
	"encoding/hex"
	"fmt"
	"math"
	"slices"
	"testing"

	"sealwright/signer"
)

const (
	chains      = 35
	nodeSize    = 16
	oneTimeSize = 560
	publicSize  = 17
	maxHeight   = 3
)

// badHeights are heights of which there is no key, although the lowest bits of some of them are those of one.
var badHeights = []int{-1, -2, -4, -253, -256, 4, 5, 7, 8, 16, 62, 63, 64, 127, 128, 255, 256, 257, 259, 1 << 16, 1 << 32, 1<<32 + 1, math.MinInt, math.MinInt + 1, math.MaxInt}

// pattern returns n bytes that differ from their neighbours.
func pattern(n int) []byte {
	b := make([]byte, n)
	for i := range b {
		b[i] = byte(1 + i%251)
	}
	return b
}

// wantHash returns the first 16 bytes of the hash of a frame.
func wantHash(tag byte, fields ...[]byte) []byte {
	frame := []byte{tag}
	for _, f := range fields {
		frame = binary.BigEndian.AppendUint32(frame, uint32(len(f)))
		frame = append(frame, f...)
	}
	sum := sha256.Sum256(frame)
	return sum[:nodeSize]
}

// wantDerive returns the first n bytes, at most 32, that are derived from a key.
func wantDerive(key []byte, label string, context []byte, n int) []byte {
	h := hmac.New(sha256.New, key)
	h.Write([]byte{0, 0, 0, 1})
	h.Write(append([]byte(label), 0))
	h.Write(context)
	h.Write(binary.BigEndian.AppendUint32(nil, uint32(8*n)))
	return h.Sum(nil)[:n]
}

// wantDigits returns the positions of the nodes in the one-time signature of a message.
func wantDigits(message []byte) []int {
	var digits []int
	sum := 0
	for _, b := range wantHash(4, message) {
		digits = append(digits, int(b/16), int(b%16))
		sum += 30 - int(b/16) - int(b%16)
	}
	return append(digits, sum/256, sum/16%16, sum%16)
}

// wantChain continues a chain of a leaf from one position to another.
func wantChain(node []byte, leaf, chain, from, to int) []byte {
	for p := from; p < to; p++ {
		node = wantHash(1, []byte{byte(leaf), byte(chain), byte(p)}, node)
	}
	return node
}

// wantNode returns the node at a position of a chain of a leaf.
func wantNode(leafSeed []byte, leaf, chain, position int) []byte {
	bottom := wantDerive(leafSeed, "chain", []byte{byte(leaf), byte(chain)}, nodeSize)
	return wantChain(bottom, leaf, chain, 0, position)
}

// wantValue returns the public value of a one-time leaf.
func wantValue(leafSeed []byte, leaf int) []byte {
	var tops []byte
	for c := range chains {
		tops = append(tops, wantNode(leafSeed, leaf, c, 15)...)
	}
	return wantHash(2, []byte{byte(leaf)}, tops)
}

// wantRecovered returns the public value that belongs to any 560 bytes.
func wantRecovered(leaf int, message, sig []byte) []byte {
	var tops []byte
	for c, d := range wantDigits(message) {
		tops = append(tops, wantChain(sig[nodeSize*c:nodeSize*(c+1)], leaf, c, d, 15)...)
	}
	return wantHash(2, []byte{byte(leaf)}, tops)
}

// wantClimb returns the root that a leaf and a path of any length lead to, for any index.
func wantClimb(value []byte, leaf int, path []byte) []byte {
	for h := 0; h < len(path)/nodeSize; h++ {
		sibling := path[h*nodeSize : (h+1)*nodeSize]
		place := []byte{byte(h), byte(leaf >> (h + 1))}
		if leaf>>h%2 == 0 {
			value = wantHash(3, place, value, sibling)
		} else {
			value = wantHash(3, place, sibling, value)
		}
	}
	return value
}

// key is a signing key as chapter 7 constructs it. Its level 0 consists of the public values of its leaves.
type key struct {
	height   int
	leafSeed []byte
	levels   [][][]byte
}

// wantKey returns the key of a seed and a height.
func wantKey(seed []byte, height int) key {
	k := key{height: height, leafSeed: wantDerive(seed, "signer", []byte{byte(height)}, 32)}
	var level [][]byte
	for leaf := range 1 << height {
		level = append(level, wantValue(k.leafSeed, leaf))
	}
	k.levels = append(k.levels, level)
	for h := range height {
		var next [][]byte
		for i := range len(level) / 2 {
			next = append(next, wantHash(3, []byte{byte(h), byte(i)}, level[2*i], level[2*i+1]))
		}
		k.levels = append(k.levels, next)
		level = next
	}
	return k
}

// public returns the public key.
func (k key) public() []byte {
	return append([]byte{byte(k.height)}, k.levels[k.height][0]...)
}

// sign returns the signature of a message with a leaf.
func (k key) sign(leaf int, message []byte) []byte {
	sig := []byte{byte(leaf)}
	for c, d := range wantDigits(message) {
		sig = append(sig, wantNode(k.leafSeed, leaf, c, d)...)
	}
	return append(sig, k.path(leaf)...)
}

// path returns the siblings of the nodes above a leaf.
func (k key) path(leaf int) []byte {
	var path []byte
	for h := range k.height {
		place := leaf >> h
		if place%2 == 0 {
			path = append(path, k.levels[h][place+1]...)
		} else {
			path = append(path, k.levels[h][place-1]...)
		}
	}
	return path
}

// seeds returns seeds of several lengths.
func seeds() [][]byte {
	return [][]byte{nil, {}, {0}, []byte("seed"), pattern(32), bytes.Repeat([]byte{255}, 32), pattern(64), pattern(65), pattern(1000)}
}

// messages returns messages of several lengths.
func messages() [][]byte {
	return [][]byte{nil, {}, {0}, {0, 0}, []byte("a message"), []byte("another message"), pattern(63), pattern(64), bytes.Repeat([]byte{255}, 128), pattern(2048), pattern(100000)}
}

// refuse reports an error if a signature verifies, or if a leaf is returned although it does not.
func refuse(t *testing.T, what string, public, message, sig []byte) {
	t.Helper()
	if leaf, ok := signer.Verify(public, message, sig); ok || leaf != 0 {
		t.Errorf("%s: %d, %v", what, leaf, ok)
	}
}

// accept reports an error if a signature does not verify with a leaf.
func accept(t *testing.T, what string, public, message, sig []byte, want int) {
	t.Helper()
	if leaf, ok := signer.Verify(public, message, sig); !ok || leaf != want {
		t.Errorf("%s: %d, %v, want %d", what, leaf, ok, want)
	}
}

// P7.1
func TestPublicOfExamples(t *testing.T) {
	for _, c := range []struct {
		seed   string
		height int
		want   string
	}{
		{"", 0, "00b3daad8c46af51d4c5e22ddd96b60861"},
		{"", 1, "0191797967cb84f7ab2186368fae8f9e15"},
		{"", 2, "020547bbcbe55a283b06ac855b4b80ebe0"},
		{"", 3, "03ebbee937ab492dc64aa8613d8e99ff07"},
		{"seed", 0, "00f61be63ab91a78d075bc28b5f7ab8f6d"},
		{"seed", 1, "01210407fa6a9c9c09ff3baf21f815d726"},
		{"seed", 2, "0226644ecd2da6f40eceebc7fc4a8b0d2a"},
		{"seed", 3, "032c293116525c6374007ef21975de4a75"},
		{"seed", 4, ""},
	} {
		if got := hex.EncodeToString(signer.Public([]byte(c.seed), c.height)); got != c.want {
			t.Errorf("height %d of %q: %s, want %s", c.height, c.seed, got, c.want)
		}
	}
}

// P7.2
func TestSignOfExamples(t *testing.T) {
	for _, c := range []struct {
		seed         string
		height, leaf int
		message      string
		size         int
		want         string // the SHA-256 digest of the signature
	}{
		{"", 0, 0, "", 561, "18e12daed1cd45b1c47349441952e635f646caebcf0584de755b84c87b4d7f40"},
		{"seed", 0, 0, "a message", 561, "77f76bde36a9ea5001516e3c5895fd6ff7a833e33007b12346e8dd996fd0b6af"},
		{"seed", 1, 1, "a message", 577, "b2c71d9886c716217cf7b6cbeafe9d038d5fb446720df88bc245d238d07a94d8"},
		{"seed", 2, 2, "", 593, "77ca2bc6c054f935e0953f715aff3d9357d66bd2e8c0f82ebb4c133f7e8676e9"},
		{"seed", 3, 5, "a message", 609, "ffe07ef1dad45c65517b5e1fb7efa0ce9515071534552b5f5658a02d714c157f"},
	} {
		sig := signer.Sign([]byte(c.seed), c.height, c.leaf, []byte(c.message))
		sum := sha256.Sum256(sig)
		if got := hex.EncodeToString(sum[:]); got != c.want || len(sig) != c.size {
			t.Errorf("height %d, leaf %d of %q: %d bytes, %s, want %d, %s", c.height, c.leaf, c.seed, len(sig), got, c.size, c.want)
		}
	}
}

// P7.1, P7.2, P7.4
func TestAllLeaves(t *testing.T) {
	for _, seed := range seeds() {
		for height := range maxHeight + 1 {
			k := wantKey(seed, height)
			public := signer.Public(seed, height)
			if len(public) != publicSize || !bytes.Equal(public, k.public()) {
				t.Errorf("seed %x, height %d: %x, want %x", seed, height, public, k.public())
			}
			for leaf := range 1 << height {
				message := pattern(10*height + leaf)
				sig := signer.Sign(seed, height, leaf, message)
				if !bytes.Equal(sig, k.sign(leaf, message)) {
					t.Errorf("seed %x, height %d, leaf %d: %x, want %x", seed, height, leaf, sig, k.sign(leaf, message))
				}
				accept(t, fmt.Sprintf("seed %x, height %d, leaf %d", seed, height, leaf), public, message, sig, leaf)
			}
		}
	}
}

// P7.2, P7.4: Sign does not know which leaves have been used, so that a leaf signs every message.
func TestMessages(t *testing.T) {
	seed := pattern(32)
	for height := range maxHeight + 1 {
		k := wantKey(seed, height)
		for i, message := range messages() {
			leaf := i % (1 << height)
			sig := signer.Sign(seed, height, leaf, message)
			if !bytes.Equal(sig, k.sign(leaf, message)) {
				t.Errorf("height %d, leaf %d, %d bytes: %x", height, leaf, len(message), sig)
			}
			accept(t, fmt.Sprintf("height %d, leaf %d, %d bytes", height, leaf, len(message)), k.public(), message, sig, leaf)
		}
	}
}

// P7.1, P7.2
func TestHeightsOutOfRange(t *testing.T) {
	for _, height := range badHeights {
		if got := signer.Public([]byte("seed"), height); got != nil {
			t.Errorf("height %d: %x", height, got)
		}
		for _, leaf := range []int{0, 1, 7, 8, -1, math.MinInt, math.MaxInt} {
			if got := signer.Sign([]byte("seed"), height, leaf, []byte("a message")); got != nil {
				t.Errorf("height %d, leaf %d: %x", height, leaf, got)
			}
		}
	}
}

// P7.2
func TestLeavesOutOfRange(t *testing.T) {
	for height := range maxHeight + 1 {
		n := 1 << height
		bad := []int{n, n + 1, 2 * n, 16, 255, 256, 256 + n - 1, -1, -n, -256, -255, 1 << 16, 1 << 32, 1<<32 + n - 1, math.MinInt, math.MinInt + 1, math.MaxInt}
		for _, leaf := range bad {
			if got := signer.Sign([]byte("seed"), height, leaf, []byte("a message")); got != nil {
				t.Errorf("height %d, leaf %d: %x", height, leaf, got)
			}
		}
	}
}

// Keys of one seed but of different heights share no leaf.
func TestHeightsDiffer(t *testing.T) {
	seen := map[string]bool{}
	for height := range maxHeight + 1 {
		root := string(signer.Public([]byte("seed"), height)[1:])
		sig := signer.Sign([]byte("seed"), height, 0, []byte("a message"))
		if seen[root] || seen[string(sig[1:1+oneTimeSize])] {
			t.Errorf("height %d shares its root or its first leaf", height)
		}
		seen[root], seen[string(sig[1:1+oneTimeSize])] = true, true
	}
}

// P7.3: each signature verifies with the public key that it leads to, but only if the leaf and the height are in range.
func TestVerifyOfAnyBytes(t *testing.T) {
	message := []byte("a message")
	for _, height := range []int{0, 1, 2, 3, 4, 5, 8, 63, 64, 127, 128, 255} {
		for _, leaf := range []int{0, 1, 2, 3, 4, 5, 6, 7, 8, 9, 15, 16, 127, 128, 254, 255} {
			for _, rest := range [][]byte{make([]byte, oneTimeSize+nodeSize*height), pattern(oneTimeSize + nodeSize*height)} {
				sig := append([]byte{byte(leaf)}, rest...)
				root := wantClimb(wantRecovered(leaf, message, rest[:oneTimeSize]), leaf, rest[oneTimeSize:])
				public := append([]byte{byte(height)}, root...)
				what := fmt.Sprintf("height %d, leaf %d", height, leaf)
				if height <= maxHeight && leaf < 1<<height {
					accept(t, what, public, message, sig, leaf)
				} else {
					refuse(t, what, public, message, sig)
				}
			}
		}
	}
}

// P7.3
func TestVerifyOfPublicLengths(t *testing.T) {
	message := []byte("a message")
	for height := range maxHeight + 1 {
		leaf := 1<<height - 1
		sig := signer.Sign([]byte("seed"), height, leaf, message)
		public := append(signer.Public([]byte("seed"), height), make([]byte, 300)...)
		for n := range len(public) {
			if n != publicSize {
				refuse(t, fmt.Sprintf("height %d, %d bytes", height, n), public[:n], message, sig)
			}
		}
		accept(t, "the public key itself", public[:publicSize], message, sig, leaf)
		refuse(t, "no public key", nil, message, sig)
		refuse(t, "nothing", nil, nil, nil)
	}
}

// P7.3
func TestVerifyOfHeights(t *testing.T) {
	message := []byte("a message")
	for height := range maxHeight + 1 {
		public := signer.Public([]byte("seed"), height)
		sig := append(signer.Sign([]byte("seed"), height, 0, message), make([]byte, 16*256)...)
		for other := range 256 {
			changed := append([]byte{byte(other)}, public[1:]...)
			if other != height {
				refuse(t, fmt.Sprintf("height %d for %d", other, height), changed, message, sig[:561+16*height])
				refuse(t, fmt.Sprintf("height %d for %d, as long", other, height), changed, message, sig[:561+16*other])
			}
		}
	}
}

// P7.3
func TestVerifyOfSignatureLengths(t *testing.T) {
	message := []byte("a message")
	for height := range maxHeight + 1 {
		leaf, public := 1<<height-1, signer.Public([]byte("seed"), height)
		own := signer.Sign([]byte("seed"), height, leaf, message)
		for n := range 2 * len(own) {
			sig := append(bytes.Clone(own), pattern(2*len(own))...)[:n]
			if n == len(own) {
				accept(t, "the signature itself", public, message, sig, leaf)
			} else {
				refuse(t, fmt.Sprintf("height %d, %d bytes", height, n), public, message, sig)
			}
		}
		refuse(t, "no signature", public, message, nil)
	}
}

// P7.3
func TestVerifyOfLeaves(t *testing.T) {
	message := []byte("a message")
	for height := range maxHeight + 1 {
		public := signer.Public([]byte("seed"), height)
		for leaf := range 1 << height {
			sig := signer.Sign([]byte("seed"), height, leaf, message)
			for other := range 256 {
				if other != leaf {
					refuse(t, fmt.Sprintf("height %d, leaf %d for %d", height, other, leaf), public, message, append([]byte{byte(other)}, sig[1:]...))
				}
			}
		}
	}
}

// flip returns a copy of b in which a bit of byte i is changed.
func flip(b []byte, i int) []byte {
	other := bytes.Clone(b)
	other[i] ^= 1 << (i % 8)
	return other
}

// P7.3
func TestVerifyOfChanges(t *testing.T) {
	seed, message := []byte("seed"), []byte("a message")
	for height := range maxHeight + 1 {
		leaf, public := (1<<height)/2, signer.Public(seed, height)
		sig := signer.Sign(seed, height, leaf, message)
		for i := range sig {
			refuse(t, fmt.Sprintf("height %d, byte %d of the signature", height, i), public, message, flip(sig, i))
		}
		for i := range public {
			refuse(t, fmt.Sprintf("height %d, byte %d of the public key", height, i), flip(public, i), message, sig)
		}
		for i := range message {
			refuse(t, fmt.Sprintf("height %d, byte %d of the message", height, i), public, flip(message, i), sig)
		}
		refuse(t, "a longer message", public, append(bytes.Clone(message), 0), sig)
		refuse(t, "a shorter message", public, message[:8], sig)
		refuse(t, "no message", public, nil, sig)
		refuse(t, "another key", signer.Public([]byte("seee"), height), message, sig)
		refuse(t, "a signature with another key", public, message, signer.Sign([]byte("seee"), height, leaf, message))
	}
}

// P7.3: the parts of two signatures do not make a third one.
func TestVerifyOfExchangedParts(t *testing.T) {
	seed, message := []byte("seed"), []byte("a message")
	public := signer.Public(seed, maxHeight)
	const start = 1 + oneTimeSize
	for a := range 8 {
		one := signer.Sign(seed, maxHeight, a, message)
		first, second, third := one[start:start+16], one[start+16:start+32], one[start+32:]
		refuse(t, "the first elements exchanged", public, message, slices.Concat(one[:start], second, first, third))
		refuse(t, "the last elements exchanged", public, message, slices.Concat(one[:start], first, third, second))
		refuse(t, "the path reversed", public, message, slices.Concat(one[:start], third, second, first))
		refuse(t, "the path before the rest", public, message, slices.Concat(one[:1], one[start:], one[1:start]))
		for b := range 8 {
			if a == b {
				continue
			}
			other := signer.Sign(seed, maxHeight, b, message)
			what := fmt.Sprintf("leaves %d and %d", a, b)
			refuse(t, what+", the path of the other", public, message, slices.Concat(one[:start], other[start:]))
			refuse(t, what+", the one-time signature of the other", public, message, slices.Concat(one[:1], other[1:start], one[start:]))
		}
	}
}

// P7.3: it is the height in the public key that says how long the path is and which leaves there are.
func TestVerifyOfSubtrees(t *testing.T) {
	message := []byte("a message")
	k := wantKey([]byte("seed"), maxHeight)
	for height := range maxHeight {
		for leaf := range 8 {
			sig := k.sign(leaf, message)[:1+oneTimeSize+nodeSize*height]
			public := append([]byte{byte(height)}, k.levels[height][leaf>>height]...)
			if what := fmt.Sprintf("height %d, leaf %d", height, leaf); leaf < 1<<height {
				accept(t, what, public, message, sig, leaf)
			} else {
				refuse(t, what, public, message, sig)
			}
		}
	}
}

// inRoom returns a copy of b that is followed by free memory.
func inRoom(b []byte) []byte {
	return append(append(make([]byte, 0, len(b)+64), b...), bytes.Repeat([]byte{77}, 64)...)[:len(b)]
}

// isInRoom reports whether b is still what inRoom returned.
func isInRoom(b, want []byte) bool {
	return bytes.Equal(b, want) && bytes.Equal(b[len(b):len(b)+64], bytes.Repeat([]byte{77}, 64))
}

// R4
func TestArgumentsAndResultsAreApart(t *testing.T) {
	for height := range maxHeight + 1 {
		k, leaf := wantKey([]byte("seed"), height), 1<<height-1
		seed, message := inRoom([]byte("seed")), inRoom([]byte("a message"))
		public, sig := inRoom(k.public()), inRoom(k.sign(leaf, []byte("a message")))
		accept(t, fmt.Sprintf("height %d", height), public, message, sig, leaf)
		for _, result := range [][]byte{signer.Public(seed, height), signer.Sign(seed, height, leaf, message)} {
			for i := range result[:cap(result)] {
				result[:cap(result)][i] = 99
			}
		}
		if !isInRoom(seed, []byte("seed")) || !isInRoom(message, []byte("a message")) {
			t.Errorf("height %d: the arguments have become %q, %q", height, seed, message)
		}
		if !isInRoom(public, k.public()) || !isInRoom(sig, k.sign(leaf, message)) {
			t.Errorf("height %d: the key and the signature have become %x, %x", height, public, sig)
		}
		if got := signer.Public(seed, height); !bytes.Equal(got, k.public()) {
			t.Errorf("height %d: the public key has become %x", height, got)
		}
	}
}

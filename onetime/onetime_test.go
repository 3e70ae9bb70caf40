package onetime_test

import (
	"bytes"
	"crypto/hmac"
	"crypto/sha256"
	"encoding/binary"
	"encoding/hex"
	"fmt"
	"math"
	"slices"
	"strconv"
	"testing"

	"sealwright/onetime"
)

const (
	chains   = 35
	nodeSize = 16
	sigSize  = 560
)

// badLeaves are numbers of which there is no leaf, although the lowest byte of each of them is that of one.
var badLeaves = []int{-1, -2, -255, -256, 256, 257, 511, 1 << 16, 1 << 32, math.MinInt, math.MinInt + 1, math.MaxInt}

// pattern returns n bytes that differ from their neighbours.
func pattern(n int) []byte {
	b := make([]byte, n)
	for i := range b {
		b[i] = byte(1 + i%251)
	}
	return b
}

// wantHash returns the first 16 bytes of the hash of a frame.
func wantHash(tag byte, fields ...[]byte) []byte {
	frame := []byte{tag}
	for _, f := range fields {
		frame = binary.BigEndian.AppendUint32(frame, uint32(len(f)))
		frame = append(frame, f...)
	}
	sum := sha256.Sum256(frame)
	return sum[:nodeSize]
}

// wantDigits reads the digits from the hexadecimal text of the hash of a message.
func wantDigits(message []byte) []int {
	text := hex.EncodeToString(wantHash(4, message))
	sum := 0
	for _, c := range text {
		d, _ := strconv.ParseInt(string(c), 16, 0)
		sum += 15 - int(d)
	}
	return digitsOf(text + fmt.Sprintf("%03x", sum))
}

// digitsOf returns the values of hexadecimal digits.
func digitsOf(text string) []int {
	var digits []int
	for _, c := range text {
		d, _ := strconv.ParseInt(string(c), 16, 0)
		digits = append(digits, int(d))
	}
	return digits
}

// wantNode returns the node at a position of a chain.
func wantNode(seed []byte, leaf, chain, position int) []byte {
	h := hmac.New(sha256.New, seed)
	h.Write([]byte{0, 0, 0, 1})
	h.Write([]byte("chain\x00"))
	h.Write([]byte{byte(leaf), byte(chain), 0, 0, 0, 128})
	return wantClimb(h.Sum(nil)[:nodeSize], leaf, chain, 0, position)
}

// wantClimb continues a chain from one position to another.
func wantClimb(node []byte, leaf, chain, from, to int) []byte {
	if from == to {
		return node
	}
	next := wantHash(1, []byte{byte(leaf), byte(chain), byte(from)}, node)
	return wantClimb(next, leaf, chain, from+1, to)
}

// wantSign returns the nodes at the positions of a message.
func wantSign(seed []byte, leaf int, message []byte) []byte {
	var sig []byte
	for c, d := range wantDigits(message) {
		sig = append(sig, wantNode(seed, leaf, c, d)...)
	}
	return sig
}

// wantPublic returns the public value of a leaf.
func wantPublic(seed []byte, leaf int) []byte {
	var tops []byte
	for c := range chains {
		tops = append(tops, wantNode(seed, leaf, c, 15)...)
	}
	return wantHash(2, []byte{byte(leaf)}, tops)
}

// wantRecover returns the public value that belongs to any 560 bytes.
func wantRecover(leaf int, message, sig []byte) []byte {
	var tops []byte
	for c, d := range wantDigits(message) {
		tops = append(tops, wantClimb(sig[nodeSize*c:nodeSize*(c+1)], leaf, c, d, 15)...)
	}
	return wantHash(2, []byte{byte(leaf)}, tops)
}

// messages returns messages of several lengths.
func messages() [][]byte {
	all := [][]byte{nil, {}, {0}, {0, 0}, []byte("a message"), []byte("another message"), bytes.Repeat([]byte{255}, 64), pattern(100000)}
	for i := range 12 {
		all = append(all, pattern(i*i))
	}
	return all
}

// P5.1
func TestDigitsOfExamples(t *testing.T) {
	for _, c := range []struct {
		message []byte
		want    string
	}{
		{nil, "88420266dfd64d604627234a8a6c75cf105"},
		{[]byte{}, "88420266dfd64d604627234a8a6c75cf105"},
		{[]byte("a message"), "3ca20379786d3c9370950ab511d5490b11a"},
		{make([]byte, 100), "c0c7962375e4f4b3f086b49424bc1e0f0fa"},
	} {
		if got := onetime.Digits(c.message); !slices.Equal(got, digitsOf(c.want)) {
			t.Errorf("%d bytes: %v, want %s", len(c.message), got, c.want)
		}
	}
}

// P5.1
func TestDigits(t *testing.T) {
	for i := range 3000 {
		message := []byte(strconv.Itoa(i))
		got := onetime.Digits(message)
		if len(got) != chains || slices.Min(got) < 0 || slices.Max(got) > 15 {
			t.Fatalf("%q: %v", message, got)
		}
		if want := wantDigits(message); !slices.Equal(got, want) {
			t.Errorf("%q: %v, want %v", message, got, want)
		}
	}
	for _, message := range messages() {
		if got, want := onetime.Digits(message), wantDigits(message); !slices.Equal(got, want) {
			t.Errorf("%d bytes: %v, want %v", len(message), got, want)
		}
	}
}

// P5.2
func TestPublicOfExamples(t *testing.T) {
	for _, c := range []struct {
		seed string
		leaf int
		want string
	}{
		{"", 0, "3e816931f252b6c7069155459b85cf65"},
		{"seed", 0, "45a7ec5257a705921176afb9290aba0a"},
		{"seed", 1, "014a956c59b6c25cdca32310886e9d2c"},
		{"seed", 255, "983714bb0d1f3eef56ab49ad8942dd74"},
	} {
		if got := hex.EncodeToString(onetime.Public([]byte(c.seed), c.leaf)); got != c.want {
			t.Errorf("leaf %d of %q: %s, want %s", c.leaf, c.seed, got, c.want)
		}
	}
}

// P5.2
func TestSignOfExamples(t *testing.T) {
	for _, c := range []struct {
		seed    string
		leaf    int
		message string
		want    string // the SHA-256 digest of the signature
	}{
		{"", 0, "", "ef82721621d1351b404684ed1a9777c56c04187b672e0fcd0d8a963fa24eb477"},
		{"seed", 255, "a message", "81e2d7e39505dfd543b6329aab1b889b91f21a2758b7fba4deb43a1be1992fe1"},
	} {
		sum := sha256.Sum256(onetime.Sign([]byte(c.seed), c.leaf, []byte(c.message)))
		if got := hex.EncodeToString(sum[:]); got != c.want {
			t.Errorf("leaf %d of %q, message %q: %s, want %s", c.leaf, c.seed, c.message, got, c.want)
		}
	}
}

// P5.2, P5.4
func TestPublicOfAllLeaves(t *testing.T) {
	seed, message := []byte("seed"), []byte("a message")
	seen := map[string]int{}
	for leaf := range 256 {
		public := onetime.Public(seed, leaf)
		if want := wantPublic(seed, leaf); !bytes.Equal(public, want) {
			t.Errorf("leaf %d: %x, want %x", leaf, public, want)
		}
		if other, ok := seen[string(public)]; ok {
			t.Errorf("the leaves %d and %d have the same public value", other, leaf)
		}
		seen[string(public)] = leaf
		sig := onetime.Sign(seed, leaf, message)
		if want := wantSign(seed, leaf, message); !bytes.Equal(sig, want) {
			t.Errorf("leaf %d: signature %x, want %x", leaf, sig, want)
		}
		if got, ok := onetime.Recover(leaf, message, sig); !ok || !bytes.Equal(got, public) {
			t.Errorf("leaf %d: recovered %x, %v, want %x", leaf, got, ok, public)
		}
	}
}

// P5.2, P5.4
func TestSignAndRecover(t *testing.T) {
	for _, seed := range [][]byte{nil, {}, {0}, []byte("seed"), pattern(32), pattern(64), pattern(65), pattern(1000)} {
		for i, message := range messages() {
			leaf := (i * 37) % 256
			sig := onetime.Sign(seed, leaf, message)
			if len(sig) != sigSize || !bytes.Equal(sig, wantSign(seed, leaf, message)) {
				t.Errorf("seed %x, leaf %d, %d bytes: %x", seed, leaf, len(message), sig)
			}
			got, ok := onetime.Recover(leaf, message, sig)
			if !ok || !bytes.Equal(got, onetime.Public(seed, leaf)) || !bytes.Equal(got, wantPublic(seed, leaf)) {
				t.Errorf("seed %x, leaf %d, %d bytes: recovered %x, %v", seed, leaf, len(message), got, ok)
			}
		}
	}
}

// P5.2, P5.3
func TestLeavesOutOfRange(t *testing.T) {
	seed, message := []byte("seed"), []byte("a message")
	for _, leaf := range badLeaves {
		if got := onetime.Public(seed, leaf); got != nil {
			t.Errorf("leaf %d: public value %x", leaf, got)
		}
		if got := onetime.Sign(seed, leaf, message); got != nil {
			t.Errorf("leaf %d: signature %x", leaf, got)
		}
		sig := onetime.Sign(seed, leaf&255, message)
		if got, ok := onetime.Recover(leaf, message, sig); ok || got != nil {
			t.Errorf("leaf %d: recovered %x, %v", leaf, got, ok)
		}
		if got, ok := onetime.Recover(leaf, nil, nil); ok || got != nil {
			t.Errorf("leaf %d, no signature: recovered %x, %v", leaf, got, ok)
		}
	}
}

// P5.3
func TestRecoverOfLengths(t *testing.T) {
	message := []byte("a message")
	sig := append(onetime.Sign([]byte("seed"), 3, message), pattern(3*sigSize)...)
	for n := range 2*sigSize + 2 {
		got, ok := onetime.Recover(3, message, sig[:n])
		if ok != (n == sigSize) || (len(got) > 0) != ok {
			t.Errorf("%d bytes: %x, %v", n, got, ok)
		}
	}
	if got, ok := onetime.Recover(3, message, nil); ok || got != nil {
		t.Errorf("no signature: %x, %v", got, ok)
	}
}

// P5.3: each signature of 560 bytes belongs to some public value.
func TestRecoverOfAnyBytes(t *testing.T) {
	for i, message := range messages() {
		for _, sig := range [][]byte{make([]byte, sigSize), bytes.Repeat([]byte{255}, sigSize), pattern(sigSize)} {
			for _, leaf := range []int{0, 1, i, 254, 255} {
				got, ok := onetime.Recover(leaf, message, sig)
				if want := wantRecover(leaf, message, sig); !ok || !bytes.Equal(got, want) {
					t.Errorf("leaf %d, %d bytes: %x, %v, want %x", leaf, len(message), got, ok, want)
				}
			}
		}
	}
}

func TestRecoverOfChangedSignatures(t *testing.T) {
	seed, leaf, message := []byte("seed"), 9, []byte("a message")
	public, sig := onetime.Public(seed, leaf), onetime.Sign(seed, leaf, message)
	refuse := func(what string, leaf int, message, sig []byte) {
		if got, ok := onetime.Recover(leaf, message, sig); !ok || len(got) != nodeSize || bytes.Equal(got, public) {
			t.Errorf("%s: %x, %v", what, got, ok)
		}
	}
	for i := range sig {
		other := bytes.Clone(sig)
		other[i] ^= 1 << (i % 8)
		refuse("byte "+strconv.Itoa(i), leaf, message, other)
	}
	refuse("another leaf", 8, message, sig)
	refuse("another message", leaf, []byte("a messagf"), sig)
	refuse("no message", leaf, nil, sig)
	refuse("another seed", leaf, message, onetime.Sign([]byte("seee"), leaf, message))
	refuse("the leaf of another signature", leaf, message, onetime.Sign(seed, 8, message))
	refuse("exchanged chains", leaf, message, bytes.Join([][]byte{sig[16:32], sig[:16], sig[32:]}, nil))
}

// P5.5: whoever continues the chains of a signature to the digits of another message lacks a node.
func TestNoDigitsAreBelowOthers(t *testing.T) {
	all := [][]int{}
	for i := range 400 {
		all = append(all, onetime.Digits([]byte(strconv.Itoa(i))))
	}
	for i, a := range all {
		for j, b := range all {
			greater := false
			for c := range chains {
				greater = greater || a[c] > b[c]
			}
			if greater == slices.Equal(a, b) {
				t.Errorf("%d: %v and %d: %v", i, a, j, b)
			}
		}
	}
}

// P5.5: the sum of what is lacking decides between digits that are all greater or equal.
func TestSumOfDigits(t *testing.T) {
	for i := range 1000 {
		digits := onetime.Digits(pattern(i))
		sum := 0
		for _, d := range digits[:32] {
			sum += 15 - d
		}
		if got := digits[32]<<8 + digits[33]<<4 + digits[34]; got != sum {
			t.Errorf("%d bytes: the last digits say %d, want %d", i, got, sum)
		}
	}
}

// inRoom returns a copy of b that is followed by free memory.
func inRoom(b []byte) []byte {
	return append(append(make([]byte, 0, len(b)+64), b...), bytes.Repeat([]byte{77}, 64)...)[:len(b)]
}

// R4
func TestArgumentsAndResultsAreApart(t *testing.T) {
	seed, message := inRoom([]byte("seed")), inRoom([]byte("a message"))
	sig := inRoom(onetime.Sign(seed, 5, message))
	public, first := onetime.Public(seed, 5), onetime.Sign(seed, 5, message)
	digits := onetime.Digits(message)
	recovered, _ := onetime.Recover(5, message, sig)
	for _, result := range [][]byte{public, first, recovered} {
		for i := range result[:cap(result)] {
			result[:cap(result)][i] = 99
		}
	}
	clear(digits)
	for _, argument := range [][]byte{seed, message, sig} {
		n := len(argument)
		for _, b := range argument[n:cap(argument)][:64] {
			if b != 77 {
				t.Fatalf("the memory beyond %x has changed", argument)
			}
		}
	}
	if string(seed) != "seed" || string(message) != "a message" || !bytes.Equal(sig, wantSign(seed, 5, message)) {
		t.Errorf("the arguments have become %q, %q, %x", seed, message, sig)
	}
	if got := onetime.Public(seed, 5); !bytes.Equal(got, wantPublic(seed, 5)) {
		t.Errorf("the public value has become %x", got)
	}
}

// A signature with digits of 15 hands on its nodes as they are, but in new memory.
func TestRecoverDoesNotShareTheSignature(t *testing.T) {
	message := []byte("a message")
	sig := onetime.Sign(nil, 0, message)
	kept := bytes.Clone(sig)
	got, _ := onetime.Recover(0, message, sig)
	clear(got)
	if !bytes.Equal(sig, kept) {
		t.Error("the signature has changed")
	}
}

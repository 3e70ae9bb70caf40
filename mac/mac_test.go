package mac_test

import (
	"bytes"
	"crypto/hmac"
	"crypto/sha256"
	"encoding/binary"
	"encoding/hex"
	"math"
	"slices"
	"strings"
	"testing"

	"sealwright/mac"
)

const (
	block    = 64   // bytes of a block of SHA-256
	digest   = 32   // bytes of a digest
	greatest = 1024 // bytes of the longest result of Derive
)

// pattern returns n bytes other than zero.
func pattern(n int) []byte {
	b := make([]byte, n)
	for i := range b {
		b[i] = byte(1 + i%251)
	}
	return b
}

// wantMac returns what Mac should return.
func wantMac(key, b []byte) []byte {
	h := hmac.New(sha256.New, key)
	h.Write(b)
	return h.Sum(nil)
}

// wantDerived returns what Derive should return for an n from 1 to 1024.
func wantDerived(key []byte, label string, context []byte, n int) []byte {
	var all []byte
	for i := uint32(1); len(all) < n; i++ {
		h := hmac.New(sha256.New, key)
		binary.Write(h, binary.BigEndian, i)
		h.Write([]byte(label))
		h.Write([]byte{0})
		h.Write(context)
		binary.Write(h, binary.BigEndian, uint32(8*n))
		all = h.Sum(all)
	}
	return all[:n]
}

func TestMacOfExamples(t *testing.T) {
	same := func(b byte, n int) []byte { return bytes.Repeat([]byte{b}, n) }
	long := same(0xaa, 131)
	for _, c := range []struct {
		key     []byte
		message []byte
		want    string
	}{
		{[]byte("Jefe"), []byte("what do ya want for nothing?"), "5bdcc146bf60754e6a042426089575c75a003f089d2739839dec58b964ec3843"},
		{same(0x0b, 20), []byte("Hi There"), "b0344c61d8db38535ca8afceaf0bf12b881dc200c9833da726e9376c2e32cff7"},
		{same(0xaa, 20), same(0xdd, 50), "773ea91e36800e46854db8ebd09181a72959098b3ef8c122d9635514ced565fe"},
		{long, []byte("Test Using Larger Than Block-Size Key - Hash Key First"), "60e431591ee0b67f0d8a26aacbf5b77f8e0bc6213728c5140546040f0ee37f54"},
		{nil, nil, "b613679a0814d9ec772f95d778c35fc5ff1697c493715653c6c712144292c5ad"},
		{[]byte{}, []byte{}, "b613679a0814d9ec772f95d778c35fc5ff1697c493715653c6c712144292c5ad"},
	} {
		if got := hex.EncodeToString(mac.Mac(c.key, c.message)); got != c.want {
			t.Errorf("key %x, message %q: %s, want %s", c.key, c.message, got, c.want)
		}
	}
}

// The lengths cover keys and messages of less than a block, of a block and of more.
func TestMacOfLengths(t *testing.T) {
	for n := range 3 * block {
		for _, m := range []int{0, 1, 55, 56, 63, 64, 65, 200} {
			key, b := pattern(n), pattern(m)
			if got, want := mac.Mac(key, b), wantMac(key, b); !bytes.Equal(got, want) {
				t.Errorf("a key of %d bytes, a message of %d: %x, want %x", n, m, got, want)
			}
		}
	}
	key, b := pattern(1<<20), pattern(1<<20+1)
	if got, want := mac.Mac(key, b), wantMac(key, b); !bytes.Equal(got, want) {
		t.Errorf("a long key and a long message: %x, want %x", got, want)
	}
}

func TestMacOfAKeyWithAZeroByte(t *testing.T) {
	b := []byte("message")
	for n := range 3 * block {
		key := pattern(n)
		first, second := mac.Mac(key, b), mac.Mac(append(key, 0), b)
		if want := n < block; bytes.Equal(first, second) != want {
			t.Errorf("a key of %d bytes: %x, and with a zero byte %x", n, first, second)
		}
	}
	if !bytes.Equal(mac.Mac(nil, b), mac.Mac(make([]byte, block), b)) {
		t.Error("the empty key is not as a block of zero bytes")
	}
}

func TestDeriveOfExamples(t *testing.T) {
	for _, c := range []struct {
		key     []byte
		label   string
		context []byte
		n       int
		want    string
	}{
		{[]byte("Jefe"), "storage", []byte{0, 255, 0}, 33, "409868aced41764080bd714eebe8fc219cebcda095783fff67d8d21dea8ce65573"},
		{pattern(digest), "label", []byte("context"), 80, "59f49be0df8e49f0740d0974ad3b7d73ea4028ec53d5315758a384b3a1dc8e31a500431161ebe9dc0229203be7ff04e503630bdcc9e4d1a6932923e94c9495d81711d9ddeeefd5a3a77c64d757a91442"},
		{nil, "", nil, 32, "7b498ff291f1592682621576f6ed014e166fe61810a56d039c765a59ee98c0c9"},
		{[]byte{}, "", []byte{}, 32, "7b498ff291f1592682621576f6ed014e166fe61810a56d039c765a59ee98c0c9"},
	} {
		got := hex.EncodeToString(mac.Derive(c.key, c.label, c.context, c.n))
		if got != c.want {
			t.Errorf("key %x, label %q, context %x, %d bytes: %s, want %s", c.key, c.label, c.context, c.n, got, c.want)
		}
	}
}

// A label or a context may look like the parts of the message that stand beside it.
func TestDerive(t *testing.T) {
	keys := [][]byte{nil, {0}, pattern(digest), pattern(block), pattern(block + 1)}
	labels := []string{"", "\x00", "seed", "se\x00ed", "\xff\xfe", strings.Repeat("long", 100)}
	contexts := [][]byte{nil, {}, {0}, []byte("seed"), pattern(300)}
	for _, key := range keys {
		for _, label := range labels {
			for _, context := range contexts {
				for _, n := range []int{1, 16, 31, 32, 33, 64, 65, greatest} {
					got := mac.Derive(key, label, context, n)
					if want := wantDerived(key, label, context, n); !bytes.Equal(got, want) {
						t.Errorf("key %x, label %q, context %x, %d bytes: %x, want %x", key, label, context, n, got, want)
					}
				}
			}
		}
	}
}

func TestDeriveOfLengths(t *testing.T) {
	key, context := []byte("key"), []byte("context")
	for n := 1; n <= greatest; n++ {
		got := mac.Derive(key, "label", context, n)
		if want := wantDerived(key, "label", context, n); !bytes.Equal(got, want) {
			t.Errorf("%d bytes: %x, want %x", n, got, want)
		}
	}
}

func TestDeriveOfOtherLengths(t *testing.T) {
	for _, n := range []int{
		0, -1, -32, -greatest, greatest + 1, 1 << 20, 1 << 29, 1<<29 + 1, 1 << 32, 1<<32 + 1, 1<<61 + 1,
		math.MinInt, math.MaxInt,
	} {
		if got := mac.Derive([]byte("key"), "label", []byte("context"), n); got != nil {
			t.Errorf("%d: %d bytes", n, len(got))
		}
	}
}

func TestEqual(t *testing.T) {
	for _, b := range [][]byte{nil, {}, {0}, {0, 0}, []byte("abc"), pattern(digest), pattern(300)} {
		if !mac.Equal(b, b) || !mac.Equal(b, slices.Clone(b)) {
			t.Errorf("%x is not equal to itself", b)
		}
		for i := range b {
			for bit := range 8 {
				other := slices.Clone(b)
				other[i] ^= 1 << bit
				if mac.Equal(b, other) || mac.Equal(other, b) {
					t.Errorf("%x is equal to %x", b, other)
				}
			}
			if mac.Equal(b, b[:i]) || mac.Equal(b[:i], b) {
				t.Errorf("%x is equal to %x", b, b[:i])
			}
		}
	}
	if !mac.Equal(nil, []byte{}) || !mac.Equal([]byte{}, nil) || !mac.Equal(nil, nil) {
		t.Error("a nil list and an empty list are not equal")
	}
}

func TestArgumentsAreNotModified(t *testing.T) {
	for n := range 2*block + 1 {
		memory := pattern(4 * block)
		key, b := memory[:n], memory[n:2*n]
		mac.Mac(key, b)
		mac.Mac(b, key)
		mac.Derive(key, "label", b, 100)
		mac.Equal(key, b)
		if !bytes.Equal(memory, pattern(4*block)) {
			t.Errorf("%d bytes: the memory has changed", n)
		}
	}
}

func TestResultsAreNewMemory(t *testing.T) {
	key, b := []byte("key"), []byte("message")
	for name, f := range map[string]func() []byte{
		"Mac":    func() []byte { return mac.Mac(key, b) },
		"Derive": func() []byte { return mac.Derive(key, "label", b, 40) },
	} {
		first := f()
		want := bytes.Clone(first)
		for i := range first {
			first[i] ^= 255
		}
		if !bytes.Equal(f(), want) {
			t.Errorf("%s: a result depends on an earlier one", name)
		}
	}
	if string(key) != "key" || string(b) != "message" {
		t.Error("a result shares memory with an argument")
	}
}

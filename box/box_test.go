package box_test

import (
	"bytes"
	"crypto/hmac"
	"crypto/sha256"
	"encoding/binary"
	"encoding/hex"
	"testing"

	"sealwright/api"
	"sealwright/box"
)

const (
	longestNonce = 64   // bytes of the longest nonce
	longestPlain = 1024 // bytes of the longest plaintext
	macSize      = 32   // bytes of the MAC at the end
)

// pattern returns n bytes that differ from their neighbours.
func pattern(n int) []byte {
	b := make([]byte, n)
	for i := range b {
		b[i] = byte(1 + i%251)
	}
	return b
}

// wantMac returns the HMAC-SHA-256 of parts that follow each other.
func wantMac(key []byte, parts ...[]byte) []byte {
	h := hmac.New(sha256.New, key)
	for _, p := range parts {
		h.Write(p)
	}
	return h.Sum(nil)
}

// wantDerived returns n bytes that are derived from key.
func wantDerived(key []byte, label string, nonce []byte, n int) []byte {
	var all []byte
	for i := uint32(1); len(all) < n; i++ {
		count := binary.BigEndian.AppendUint32(nil, i)
		bits := binary.BigEndian.AppendUint32(nil, uint32(8*n))
		all = append(all, wantMac(key, count, []byte(label), []byte{0}, nonce, bits)...)
	}
	return all[:n]
}

// wantBlob returns x with its length in two bytes.
func wantBlob(x []byte) []byte {
	return append(binary.BigEndian.AppendUint16(nil, uint16(len(x))), x...)
}

// wantSealed returns what Seal should return for a nonce and a plaintext that are not too long.
func wantSealed(key, nonce, ad, plain []byte) []byte {
	encrypted := wantDerived(key, "encrypt", nonce, len(plain))
	for i := range encrypted {
		encrypted[i] ^= plain[i]
	}
	return wantAuthenticated(key, nonce, ad, encrypted)
}

// wantAuthenticated returns a nonce and a ciphertext of any length with the right MAC.
func wantAuthenticated(key, nonce, ad, encrypted []byte) []byte {
	frame := []byte{0}
	for _, field := range [][]byte{ad, nonce, encrypted} {
		frame = binary.BigEndian.AppendUint32(frame, uint32(len(field)))
		frame = append(frame, field...)
	}
	sum := wantMac(wantDerived(key, "authenticate", nonce, macSize), frame)
	return bytes.Join([][]byte{wantBlob(nonce), wantBlob(encrypted), sum}, nil)
}

// expect reports an error of t unless Open returns a plaintext and an error.
func expect(t *testing.T, what string, key, ad, b, plain []byte, err api.Errno) {
	t.Helper()
	got, gotErr := box.Open(key, ad, b)
	if gotErr != err || !bytes.Equal(got, plain) {
		t.Errorf("%s: %x with error %d, want %x with error %d", what, got, gotErr, plain, err)
	}
}

func TestSealOfExamples(t *testing.T) {
	for _, c := range []struct {
		key, nonce, ad, plain string
		want                  string
	}{
		{"", "", "", "", "00000000dfecced0fdaf4a8767eaef8f39d350e2c094aad8fec5e3a8e6a3453bbf4c8eaf"},
		{"key", "nonce", "data", "plain", "00056e6f6e636500058565cb199e0e4af23afaa353e88cf43368fad8a4473c29883d3b33ce80f9f0660ff46313e0"},
		{"key", "", "", "a plaintext that is longer than one part of the stream", "00000036a15de6f3ee8933f974348b1b5c0da80e2cd6ea1beb0d1a161c7e38bc51ce3c8ee35ed4a8c2ae8e4cb310f297e1aa217af2041c954e3c8788de7b752a9a1e8d50a51d2e06b70465e80f52075525071dbb89c6532e15e6"},
		{"k", "nnn", "d", "", "00036e6e6e0000f50ed4adc00de82c86bf1c935828039f521bc251d64fcc4b5c7667f3838da41b"},
	} {
		got := hex.EncodeToString(box.Seal([]byte(c.key), []byte(c.nonce), []byte(c.ad), []byte(c.plain)))
		if got != c.want {
			t.Errorf("key %q, nonce %q, data %q, plaintext %q: %s, want %s", c.key, c.nonce, c.ad, c.plain, got, c.want)
		}
	}
	if got := box.Seal([]byte("key"), nil, nil, nil); len(got) != 36 {
		t.Errorf("an empty plaintext with an empty nonce: %d bytes, want 36", len(got))
	}
}

func TestSealAndOpen(t *testing.T) {
	keys := [][]byte{nil, {0}, pattern(32), pattern(65)}
	nonces := [][]byte{nil, {}, {0}, pattern(16), pattern(longestNonce - 1), pattern(longestNonce)}
	datas := [][]byte{nil, {}, {0}, []byte("data"), pattern(70000)}
	plains := [][]byte{nil, {}, {0}, []byte("plain"), pattern(32), pattern(33), pattern(longestPlain - 1), pattern(longestPlain)}
	for _, key := range keys {
		for _, nonce := range nonces {
			for _, ad := range datas {
				for _, plain := range plains {
					got := box.Seal(key, nonce, ad, plain)
					if !bytes.Equal(got, wantSealed(key, nonce, ad, plain)) {
						t.Errorf("key %x, nonce %x, %d bytes of data, %d of plaintext: %x", key, nonce, len(ad), len(plain), got)
					}
					expect(t, "what was sealed", key, ad, got, plain, api.OK)
				}
			}
		}
	}
}

func TestSealAndOpenOfLengths(t *testing.T) {
	key, ad := []byte("key"), []byte("data")
	for n := range longestPlain + 1 {
		nonce, plain := pattern(n%(longestNonce+1)), pattern(n)
		got := box.Seal(key, nonce, ad, plain)
		if !bytes.Equal(got, wantSealed(key, nonce, ad, plain)) {
			t.Errorf("%d bytes: %x", n, got)
		}
		expect(t, "what was sealed", key, ad, got, plain, api.OK)
	}
}

func TestSealOfTooManyBytes(t *testing.T) {
	for _, c := range []struct{ nonce, plain int }{
		{longestNonce + 1, 0}, {longestNonce + 1, 5}, {longestNonce + 1, longestPlain}, {longestNonce + 1, longestPlain + 1},
		{0, longestPlain + 1}, {5, longestPlain + 1}, {longestNonce, longestPlain + 1},
		{longestPlain, 0}, {0, 1 << 16}, {1 << 16, 0}, {1<<16 + 5, 1<<16 + 5},
	} {
		if got := box.Seal([]byte("key"), pattern(c.nonce), []byte("data"), pattern(c.plain)); got != nil {
			t.Errorf("a nonce of %d bytes, a plaintext of %d: %d bytes", c.nonce, c.plain, len(got))
		}
	}
}

// Each of the inputs has the right MAC, as far as there is one, so that reading alone finds the error.
func TestOpenOfBadForms(t *testing.T) {
	key, ad, plain := []byte("key"), []byte("data"), []byte("plain")
	sealed := wantSealed(key, pattern(3), ad, plain)
	tooLong := append(wantBlob(pattern(longestNonce+1)), sealed...)
	for _, c := range []struct {
		what string
		b    []byte
		want api.Errno
	}{
		{"nothing", nil, api.ErrTruncated},
		{"an empty list", []byte{}, api.ErrTruncated},
		{"half of a length", []byte{0}, api.ErrTruncated},
		{"no ciphertext", []byte{0, 0}, api.ErrTruncated},
		{"no MAC", []byte{0, 0, 0, 0}, api.ErrTruncated},
		{"a nonce too long", wantAuthenticated(key, pattern(longestNonce+1), ad, plain), api.ErrTooLong},
		{"a nonce too long, which is cut off", []byte{0, longestNonce + 1, 5}, api.ErrTooLong},
		{"a nonce that is cut off", []byte{0, longestNonce, 5}, api.ErrTruncated},
		{"a ciphertext too long", wantAuthenticated(key, pattern(3), ad, pattern(longestPlain+1)), api.ErrTooLong},
		{"a ciphertext too long, which is cut off", []byte{0, 0, 4, 1, 5}, api.ErrTooLong},
		{"a ciphertext that is cut off", []byte{0, 0, 4, 0, 5}, api.ErrTruncated},
		{"a nonce and a ciphertext too long", wantAuthenticated(key, pattern(longestNonce+1), ad, pattern(longestPlain+1)), api.ErrTooLong},
		{"lengths of 65535", bytes.Repeat([]byte{255}, 1<<17), api.ErrTooLong},
		{"a byte at the end", append(bytes.Clone(sealed), 0), api.ErrTrailing},
		{"many bytes at the end", append(bytes.Clone(sealed), sealed...), api.ErrTrailing},
		{"a nonce too long, and bytes at the end", tooLong, api.ErrTooLong},
	} {
		expect(t, c.what, key, ad, c.b, nil, c.want)
	}
	for n := range sealed {
		expect(t, "the beginning", key, ad, sealed[:n], nil, api.ErrTruncated)
	}
}

// An error of reading is returned although the MAC is wrong, too.
func TestOpenReadsToTheEndFirst(t *testing.T) {
	key, ad := []byte("key"), []byte("data")
	wrong := make([]byte, 4+macSize)
	expect(t, "a wrong MAC", key, ad, wrong, nil, api.ErrIntegrity)
	expect(t, "a wrong MAC that is cut off", key, ad, wrong[:3+macSize], nil, api.ErrTruncated)
	expect(t, "a wrong MAC and another byte", key, ad, append(wrong, 0), nil, api.ErrTrailing)
	sealed := wantSealed(key, nil, ad, nil)
	expect(t, "the right MAC and another byte", []byte("kez"), ad, append(sealed, 7), nil, api.ErrTrailing)
}

// A changed bit of a length moves the parts, so that any error is possible, but no plaintext.
func TestOpenOfChangedBits(t *testing.T) {
	key, ad := pattern(32), []byte("data")
	for _, c := range []struct{ nonce, plain int }{{0, 0}, {0, 5}, {16, 0}, {16, 40}, {longestNonce, 3}} {
		sealed := box.Seal(key, pattern(c.nonce), ad, pattern(c.plain))
		for i := range sealed {
			inLength := i < 2 || i >= 2+c.nonce && i < 4+c.nonce
			for bit := range 8 {
				other := bytes.Clone(sealed)
				other[i] ^= 1 << bit
				got, err := box.Open(key, ad, other)
				if len(got) > 0 || err == api.OK || !inLength && err != api.ErrIntegrity {
					t.Errorf("bit %d of byte %d of %x: %x with error %d", bit, i, sealed, got, err)
				}
			}
		}
	}
}

func TestOpenWithOtherKeysAndData(t *testing.T) {
	key, nonce, ad, plain := []byte("key"), []byte("nonce"), []byte("data"), []byte("plain")
	sealed := box.Seal(key, nonce, ad, plain)
	for _, other := range [][]byte{nil, {0}, []byte("kez"), []byte("ke"), []byte("keyy"), []byte("\x00key"), pattern(100)} {
		expect(t, "another key", other, ad, sealed, nil, api.ErrIntegrity)
	}
	for _, other := range [][]byte{nil, {0}, []byte("datb"), []byte("dat"), []byte("data\x00"), []byte("datanonce"), pattern(100)} {
		expect(t, "other data", key, other, sealed, nil, api.ErrIntegrity)
	}
	// A key of up to 63 bytes is the same as one that ends with zero bytes (P2.4).
	expect(t, "the key with a zero byte", []byte("key\x00"), ad, sealed, plain, api.OK)
}

// The parts of an input can be told apart: a byte that moves from one to the next is noticed.
func TestOpenOfMovedBytes(t *testing.T) {
	key := []byte("key")
	sealed := box.Seal(key, []byte("ab"), []byte("cd"), []byte("ef"))
	encrypted, sum := sealed[6:8], sealed[8:]
	for _, c := range []struct{ nonce, ad, encrypted string }{
		{"a", "bcd", string(encrypted)},
		{"abc", "d", string(encrypted)},
		{"a", "cd", "b" + string(encrypted)},
		{"ab" + string(encrypted[:1]), "cd", string(encrypted[1:])},
		{"cd", "ab", string(encrypted)},
		{"ab", "cd", ""},
		{"", "cd", string(encrypted)},
	} {
		b := bytes.Join([][]byte{wantBlob([]byte(c.nonce)), wantBlob([]byte(c.encrypted)), sum}, nil)
		expect(t, "moved bytes", key, []byte(c.ad), b, nil, api.ErrIntegrity)
	}
}

// The lists lie in one piece of memory, which goes on behind each of them.
func TestArgumentsAreNotModified(t *testing.T) {
	for n := range longestNonce + 1 {
		memory := pattern(8 * longestNonce)
		before := bytes.Clone(memory)
		key, nonce, ad, plain := memory[:n], memory[n:2*n], memory[2*n:3*n], memory[n/2:4*n]
		sealed := box.Seal(key, nonce, ad, plain)
		beyond := append(bytes.Clone(sealed), pattern(100)...)
		expect(t, "a part of some memory", key, ad, beyond[:len(sealed)], plain, api.OK)
		box.Open(key, ad, memory)
		if !bytes.Equal(memory, before) || !bytes.Equal(beyond, append(sealed, pattern(100)...)) {
			t.Errorf("%d bytes: the memory has changed", n)
		}
	}
}

func TestResultsAreNewMemory(t *testing.T) {
	key, nonce, ad, plain := []byte("key"), []byte("nonce"), []byte("data"), []byte("plain")
	sealed := box.Seal(key, nonce, ad, plain)
	for name, f := range map[string]func() []byte{
		"Seal": func() []byte { return box.Seal(key, nonce, ad, plain) },
		"Open": func() []byte { b, _ := box.Open(key, ad, sealed); return b },
	} {
		first := f()
		want := bytes.Clone(first)
		for i := range first {
			first[i] ^= 255
		}
		if !bytes.Equal(f(), want) {
			t.Errorf("%s: a result shares memory with an argument or a result", name)
		}
	}
}

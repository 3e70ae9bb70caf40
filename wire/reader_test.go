package wire_test

import (
	"bytes"
	"encoding/binary"
	"math"
	"math/rand"
	"slices"
	"testing"

	"sealwright/api"
	"sealwright/wire"
)

// checkReader checks what a Reader says of itself.
func checkReader(t *testing.T, r *wire.Reader, left int, err api.Errno) {
	t.Helper()
	end := err
	if err == api.OK && left > 0 {
		end = api.ErrTrailing
	}
	if r.Left() != left || r.Err() != err || r.End() != end {
		t.Errorf("%d bytes left, error %d, end %d; want %d, %d, %d", r.Left(), r.Err(), r.End(), left, err, end)
	}
}

// checkFailed checks that a Reader keeps its error and its bytes whatever is read.
func checkFailed(t *testing.T, r *wire.Reader, left int, err api.Errno) {
	t.Helper()
	checkReader(t, r, left, err)
	for _, n := range []int{math.MinInt, -1, 0, 1, 2, 8, 9, 100, math.MaxInt} {
		if x := r.Uint(n); x != 0 {
			t.Errorf("after an error, Uint(%d): %d", n, x)
		}
		if b := r.Raw(n); len(b) != 0 {
			t.Errorf("after an error, Raw(%d): %x", n, b)
		}
		if b := r.Blob(n); len(b) != 0 {
			t.Errorf("after an error, Blob(%d): %x", n, b)
		}
		checkReader(t, r, left, err)
	}
}

func TestReaderAtTheBeginning(t *testing.T) {
	for _, n := range []int{0, 1, 2, 100} {
		checkReader(t, wire.New(pattern(n)), n, api.OK)
	}
	checkReader(t, wire.New(nil), 0, api.OK)
	checkReader(t, new(wire.Reader), 0, api.OK)
	r := new(wire.Reader)
	r.Raw(1)
	checkFailed(t, r, 0, api.ErrTruncated)
}

func TestReadUint(t *testing.T) {
	b := []byte{0x7f, 0xff, 0x80, 1, 2, 3, 4, 5, 6}
	for size := 1; size <= 8; size++ {
		all := append(make([]byte, 8-size), b[:size]...)
		want := int(binary.BigEndian.Uint64(all))
		r := wire.New(b)
		if got := r.Uint(size); got != want {
			t.Errorf("size %d: %d, want %d", size, got, want)
		}
		checkReader(t, r, len(b)-size, api.OK)
	}
}

func TestReadUintOfEightBytes(t *testing.T) {
	for _, c := range []struct {
		b    string
		want int
		left int
		err  api.Errno
	}{
		{"\x00\x00\x00\x00\x00\x00\x00\x00", 0, 0, api.OK},
		{"\x00\x00\x00\x00\x00\x00\x01\x02\x03", 258, 1, api.OK},
		{"\x7f\xff\xff\xff\xff\xff\xff\xfe", math.MaxInt64 - 1, 0, api.OK},
		{"\x7f\xff\xff\xff\xff\xff\xff\xff", math.MaxInt64, 0, api.OK},
		{"\x80\x00\x00\x00\x00\x00\x00\x00", 0, 8, api.ErrTooLong},
		{"\x80\x00\x00\x00\x00\x00\x00\x01", 0, 8, api.ErrTooLong},
		{"\xff\xff\xff\xff\xff\xff\xff\xff\x01", 0, 9, api.ErrTooLong},
		{"\x80\x00\x00\x00\x00\x00\x00", 0, 7, api.ErrTruncated},
	} {
		r := wire.New([]byte(c.b))
		if got := r.Uint(8); got != c.want {
			t.Errorf("%x: %d, want %d", c.b, got, c.want)
		}
		checkReader(t, r, c.left, c.err)
		if c.err != api.OK {
			checkFailed(t, r, c.left, c.err)
		}
	}
}

func TestReadUintFails(t *testing.T) {
	for left := range 8 {
		for size := left + 1; size <= 8; size++ {
			r := wire.New(pattern(left))
			if got := r.Uint(size); got != 0 {
				t.Errorf("size %d of %d bytes: %d", size, left, got)
			}
			checkFailed(t, r, left, api.ErrTruncated)
		}
	}
	for _, size := range otherSizes {
		for _, left := range []int{0, 5, 20} {
			r := wire.New(pattern(left))
			if got := r.Uint(size); got != 0 {
				t.Errorf("size %d: %d", size, got)
			}
			checkFailed(t, r, left, api.ErrArgument)
		}
	}
}

func TestReadRaw(t *testing.T) {
	b := pattern(20)
	for n := range len(b) + 1 {
		r := wire.New(b)
		if got := r.Raw(n); !bytes.Equal(got, b[:n]) {
			t.Errorf("%d bytes: %x", n, got)
		}
		checkReader(t, r, len(b)-n, api.OK)
		if got := r.Raw(r.Left()); !bytes.Equal(got, b[n:]) {
			t.Errorf("after %d bytes: %x", n, got)
		}
		checkReader(t, r, 0, api.OK)
	}
	r := wire.New(nil)
	if got := r.Raw(0); len(got) != 0 {
		t.Errorf("nothing of nothing: %x", got)
	}
	checkReader(t, r, 0, api.OK)
}

func TestReadRawFails(t *testing.T) {
	for _, left := range []int{0, 1, 20} {
		for _, c := range []struct {
			n   int
			err api.Errno
		}{
			{-1, api.ErrArgument}, {-left - 1, api.ErrArgument}, {math.MinInt, api.ErrArgument},
			{left + 1, api.ErrTruncated}, {left + 2, api.ErrTruncated}, {1<<32 + left, api.ErrTruncated}, {math.MaxInt, api.ErrTruncated},
		} {
			r := wire.New(pattern(left))
			if got := r.Raw(c.n); len(got) != 0 {
				t.Errorf("%d of %d bytes: %x", c.n, left, got)
			}
			checkFailed(t, r, left, c.err)
		}
	}
}

func TestReadBlob(t *testing.T) {
	for _, c := range []struct {
		b    string
		most int
		want string
		err  api.Errno
	}{
		{"\x00\x00", 0, "", api.OK},
		{"\x00\x00", math.MaxInt, "", api.OK},
		{"\x00\x00rest", 0, "", api.OK},
		{"\x00\x03abc", 3, "abc", api.OK},
		{"\x00\x03abc", math.MaxInt, "abc", api.OK},
		{"\x00\x03abcd", 4, "abc", api.OK},
		{"", 3, "", api.ErrTruncated},
		{"", -1, "", api.ErrTruncated},
		{"\x00", 3, "", api.ErrTruncated},
		{"\x00", -1, "", api.ErrTruncated},
		{"\x00\x03abc", 2, "", api.ErrTooLong},
		{"\x00\x03abc", 0, "", api.ErrTooLong},
		{"\x00\x03abc", -1, "", api.ErrTooLong},
		{"\x00\x03ab", 2, "", api.ErrTooLong},
		{"\x00\x00", -1, "", api.ErrTooLong},
		{"\x00\x00", math.MinInt, "", api.ErrTooLong},
		{"\x01\x00abc", 255, "", api.ErrTooLong},
		{"\xff\xff", 65534, "", api.ErrTooLong},
		{"\x00\x03", 3, "", api.ErrTruncated},
		{"\x00\x03ab", 3, "", api.ErrTruncated},
		{"\x01\x00abc", 256, "", api.ErrTruncated},
		{"\xff\xffabc", 65535, "", api.ErrTruncated},
	} {
		r := wire.New([]byte(c.b))
		if got := r.Blob(c.most); string(got) != c.want {
			t.Errorf("%x, at most %d: %x, want %x", c.b, c.most, got, c.want)
		}
		if c.err == api.OK {
			checkReader(t, r, len(c.b)-2-len(c.want), api.OK)
		} else {
			checkFailed(t, r, len(c.b), c.err)
		}
	}
}

// The first error stays, even if other reads would be possible or have other errors.
func TestFirstErrorStays(t *testing.T) {
	fail := map[api.Errno]func(r *wire.Reader){
		api.ErrArgument:  func(r *wire.Reader) { r.Uint(0) },
		api.ErrTruncated: func(r *wire.Reader) { r.Raw(1000) },
		api.ErrTooLong:   func(r *wire.Reader) { r.Blob(0) },
	}
	for err, first := range fail {
		r := wire.New(pattern(20))
		r.Raw(7)
		first(r)
		checkFailed(t, r, 13, err)
		for _, second := range fail {
			second(r)
			checkFailed(t, r, 13, err)
		}
	}
}

func TestEndChangesNothing(t *testing.T) {
	r := wire.New([]byte("\x01\x00\x02ab"))
	for range 3 {
		checkReader(t, r, 5, api.OK)
	}
	if got := r.Uint(1); got != 1 {
		t.Errorf("a number: %d", got)
	}
	checkReader(t, r, 4, api.OK)
	if got := r.Blob(2); string(got) != "ab" {
		t.Errorf("a blob: %q", got)
	}
	for range 3 {
		checkReader(t, r, 0, api.OK)
	}
}

func TestReadingModifiesNoArgument(t *testing.T) {
	for n := range 40 {
		memory := pattern(100)
		r := wire.New(memory[:n])
		r.Uint(3)
		r.Blob(100)
		r.Raw(1)
		if !bytes.Equal(memory, pattern(100)) {
			t.Errorf("%d bytes: the memory has changed", n)
		}
	}
}

// A result may be changed and extended without harm to the bytes, to other results or to later reads.
func TestReadResultsAreNewMemory(t *testing.T) {
	b := []byte("abc\x00\x03def\x00\x03ghijk")
	r := wire.New(b)
	spoil := func(x []byte) {
		x = append(x, "spoilt"...)
		for i := range x {
			x[i] = 255
		}
	}
	first, second := r.Raw(3), r.Blob(3)
	spoil(first)
	if string(second) != "def" {
		t.Errorf("the second result: %q", second)
	}
	spoil(second)
	third := r.Blob(3)
	spoil(third)
	if fourth := r.Raw(2); string(fourth) != "jk" {
		t.Errorf("the last bytes: %q", fourth)
	}
	checkReader(t, r, 0, api.OK)
	if string(b) != "abc\x00\x03def\x00\x03ghijk" {
		t.Errorf("the bytes: %q", b)
	}
}

func TestNilReader(t *testing.T) {
	var r *wire.Reader
	if r.Uint(1) != 0 || len(r.Raw(0)) != 0 || len(r.Blob(1)) != 0 {
		t.Error("a nil Reader has bytes")
	}
	checkReader(t, r, 0, api.OK)
}

func TestReadersAreIndependent(t *testing.T) {
	b := []byte("abcdef")
	first, second := wire.New(b), wire.New(b)
	first.Raw(4)
	first.Raw(4)
	checkReader(t, first, 2, api.ErrTruncated)
	checkReader(t, second, 6, api.OK)
	if got := second.Raw(6); string(got) != "abcdef" {
		t.Errorf("%q", got)
	}
}

func TestWrittenNumbersAreRead(t *testing.T) {
	for size := 1; size <= 8; size++ {
		for shift := range min(8*size, 63) {
			for _, n := range []int{0, 1 << shift, 1<<shift - 1, 1<<shift | 1, math.MaxInt64 >> (63 - shift)} {
				r := wire.New(wire.Uint(nil, size, n))
				if got := r.Uint(size); got != n {
					t.Errorf("size %d: %d, want %d", size, got, n)
				}
				checkReader(t, r, 0, api.OK)
			}
		}
	}
	r := wire.New(wire.Uint(nil, 8, math.MaxInt64))
	if got := r.Uint(8); got != math.MaxInt64 {
		t.Errorf("the greatest number: %d", got)
	}
}

func TestWrittenBlobsAreRead(t *testing.T) {
	for _, n := range []int{0, 1, 2, 255, 256, 257, longest - 1, longest, longest + 1, 200000} {
		x := pattern(n)
		kept := x[:min(n, longest)]
		for _, most := range []int{len(kept), longest, math.MaxInt} {
			r := wire.New(wire.Blob(nil, x))
			if got := r.Blob(most); !bytes.Equal(got, kept) {
				t.Errorf("a blob of %d bytes: %d bytes", n, len(got))
			}
			checkReader(t, r, 0, api.OK)
		}
	}
}

// A form of many parts is read as it was written, and each shorter one is truncated.
func TestWrittenFormsAreRead(t *testing.T) {
	random := rand.New(rand.NewSource(3))
	for range 200 {
		var form []byte
		var reads []func(r *wire.Reader) bool
		for range random.Intn(10) {
			if random.Intn(2) == 0 {
				size := 1 + random.Intn(8)
				n := random.Int() >> (63 - min(63, 8*size))
				form = wire.Uint(form, size, n)
				reads = append(reads, func(r *wire.Reader) bool { return r.Uint(size) == n })
			} else {
				x := pattern(random.Intn(30))
				form = wire.Blob(form, x)
				reads = append(reads, func(r *wire.Reader) bool { return bytes.Equal(r.Blob(len(x)), x) })
			}
		}
		r := wire.New(form)
		for i, read := range reads {
			if !read(r) {
				t.Errorf("%x: part %d is another", form, i)
			}
		}
		checkReader(t, r, 0, api.OK)
		for n := range form {
			r := wire.New(form[:n])
			for _, read := range reads {
				read(r)
			}
			if r.End() != api.ErrTruncated {
				t.Errorf("%d bytes of %x: error %d", n, form, r.End())
			}
		}
	}
}

// model is a Reader that is written down anew, closely to the chapter.
type model struct {
	b   []byte
	at  int
	err api.Errno
}

func (m *model) number(size int) (int, api.Errno) {
	if size < 1 || size > 8 {
		return 0, api.ErrArgument
	}
	if len(m.b)-m.at < size {
		return 0, api.ErrTruncated
	}
	n := binary.BigEndian.Uint64(append(make([]byte, 8-size), m.b[m.at:m.at+size]...))
	if n>>63 != 0 {
		return 0, api.ErrTooLong
	}
	m.at += size
	return int(n), api.OK
}

func (m *model) raw(n int) ([]byte, api.Errno) {
	if n < 0 {
		return nil, api.ErrArgument
	}
	if len(m.b)-m.at < n {
		return nil, api.ErrTruncated
	}
	m.at += n
	return m.b[m.at-n : m.at], api.OK
}

func (m *model) blob(most int) ([]byte, api.Errno) {
	left := m.b[m.at:]
	if len(left) < 2 {
		return nil, api.ErrTruncated
	}
	n := int(binary.BigEndian.Uint16(left))
	if n > most {
		return nil, api.ErrTooLong
	}
	if len(left) < 2+n {
		return nil, api.ErrTruncated
	}
	m.at += 2 + n
	return left[2 : 2+n], api.OK
}

// read does the read of a kind from 0 to 2.
func (m *model) read(kind, n int) (x int, b []byte) {
	if m.err != api.OK {
		return 0, nil
	}
	switch kind {
	case 0:
		x, m.err = m.number(n)
	case 1:
		b, m.err = m.raw(n)
	default:
		b, m.err = m.blob(n)
	}
	return x, b
}

func readOf(r *wire.Reader, kind, n int) (x int, b []byte) {
	switch kind {
	case 0:
		return r.Uint(n), nil
	case 1:
		return 0, r.Raw(n)
	default:
		return 0, r.Blob(n)
	}
}

func TestReaderIsLikeTheModel(t *testing.T) {
	random := rand.New(rand.NewSource(1))
	alphabet := []byte{0, 0, 0, 0, 1, 2, 3, 5, 127, 128, 255}
	reached := map[[2]int]bool{}
	for range 20000 {
		b := make([]byte, random.Intn(24))
		for i := range b {
			b[i] = alphabet[random.Intn(len(alphabet))]
		}
		r, m := wire.New(b), &model{b: b}
		for range 6 {
			kind, n := random.Intn(3), random.Intn(13)-2
			before := m.err
			gotX, gotB := readOf(r, kind, n)
			wantX, wantB := m.read(kind, n)
			if gotX != wantX || !bytes.Equal(gotB, wantB) {
				t.Fatalf("%x: a read of kind %d with %d: %d, %x, want %d, %x", b, kind, n, gotX, gotB, wantX, wantB)
			}
			checkReader(t, r, len(b)-m.at, m.err)
			if before == api.OK {
				reached[[2]int{kind, int(m.err)}] = true
			}
		}
	}
	checkReached(t, reached)
}

// checkReached checks that each read had each of its outcomes.
func checkReached(t *testing.T, reached map[[2]int]bool) {
	t.Helper()
	outcomes := [][]api.Errno{
		{api.OK, api.ErrArgument, api.ErrTruncated, api.ErrTooLong},
		{api.OK, api.ErrArgument, api.ErrTruncated},
		{api.OK, api.ErrTruncated, api.ErrTooLong},
	}
	for kind, errs := range outcomes {
		for _, err := range []api.Errno{api.OK, api.ErrArgument, api.ErrTruncated, api.ErrTrailing, api.ErrTooLong} {
			if reached[[2]int{kind, int(err)}] != slices.Contains(errs, err) {
				t.Errorf("reads of kind %d: error %d is reached: %v", kind, err, reached[[2]int{kind, int(err)}])
			}
		}
	}
}

package registers_test

import (
	"bytes"
	"crypto/sha1"
	"crypto/sha256"
	"encoding/binary"
	"encoding/hex"
	"math"
	"math/rand"
	"slices"
	"testing"

	"sealwright/api"
	"sealwright/registers"
)

const (
	banks   = 2
	count   = 16
	dynamic = 12  // the first resettable register
	maxData = 128 // bytes of the data of an event
)

var sizes = [banks]int{20, 32}

// badBanks are numbers of which there is no bank, although the lowest bits of some of them are those of one.
var badBanks = []int{-1, -2, 2, 3, 4, 16, 255, 256, 257, 1 << 16, 1 << 32, 1<<32 + 1, math.MinInt, math.MinInt + 1, math.MaxInt}

// badIndices are numbers of which there is no register.
var badIndices = []int{-1, -2, -16, 16, 17, 28, 31, 32, 64, 255, 256, 257, 1 << 16, 1 << 32, 1<<32 + 1, math.MinInt, math.MinInt + 12, math.MaxInt}

// badLocalities are numbers of which there is no locality.
var badLocalities = []int{-1, -2, -4, 5, 6, 8, 16, 255, 256, 260, 1 << 16, 1 << 32, 1<<32 + 4, math.MinInt, math.MinInt + 4, math.MaxInt}

// leastExtend and leastReset return the least locality that may extend or reset a register; 5 stands for none.
func leastExtend(index int) int { return [count]int{14: 2, 15: 3}[index] }

func leastReset(index int) int {
	return [count]int{5, 5, 5, 5, 5, 5, 5, 5, 5, 5, 5, 5, 0, 0, 3, 4}[index]
}

// sum returns the digest of b that belongs to a bank.
func sum(bank int, b []byte) []byte {
	if bank == 0 {
		s := sha1.Sum(b)
		return s[:]
	}
	s := sha256.Sum256(b)
	return s[:]
}

// isActive reports whether a bit of active is set.
func isActive(active, bank int) bool { return active&(1<<bank) != 0 }

// digestsOf returns a digest of data for each active bank, and nothing for the others.
func digestsOf(active int, data string) [][]byte {
	digests := make([][]byte, banks)
	for a := range banks {
		if isActive(active, a) {
			digests[a] = sum(a, []byte(data))
		}
	}
	return digests
}

// model is the registers as chapter 8 describes them. Values of banks that are not active mean nothing.
type model struct {
	active  int
	values  [banks][count]string
	updates int
}

func newModel(active int) model {
	m := model{active: active & 3}
	for a := range banks {
		for i := range count {
			m.values[a][i] = string(bytes.Repeat([]byte{0}, sizes[a]))
		}
	}
	m.resume()
	return m
}

func (m *model) resume() {
	for a := range banks {
		for i := dynamic; i < count; i++ {
			m.values[a][i] = string(bytes.Repeat([]byte{255}, sizes[a]))
		}
	}
}

func (m *model) extend(index int, digests ...[]byte) {
	for a := range banks {
		m.values[a][index] = string(sum(a, []byte(m.values[a][index]+string(digests[a]))))
	}
	m.updates++
}

func (m *model) reset(index int) {
	for a := range banks {
		m.values[a][index] = string(make([]byte, sizes[a]))
	}
	m.updates++
}

// registers returns the plain data.
func (m *model) registers() api.Registers {
	r := api.Registers{Updates: m.updates}
	if m.active == 0 {
		return r
	}
	r.Banks = make([][][]byte, banks)
	for a := range banks {
		for i := 0; i < count && isActive(m.active, a); i++ {
			r.Banks[a] = append(r.Banks[a], []byte(m.values[a][i]))
		}
	}
	return r
}

func (m *model) encode() []byte {
	b := binary.BigEndian.AppendUint64([]byte{byte(m.active)}, uint64(m.updates))
	for a := range banks {
		for i := 0; i < count && isActive(m.active, a); i++ {
			b = append(b, m.values[a][i]...)
		}
	}
	return b
}

func (m *model) digest(s api.Selection) []byte {
	var values []byte
	for a := range banks {
		for i := range count {
			if isActive(s[a], i) {
				values = append(values, m.values[a][i]...)
			}
		}
	}
	frame := []byte{5, 0, 0, 0, 4, byte(s[0] >> 8), byte(s[0]), byte(s[1] >> 8), byte(s[1])}
	frame = binary.BigEndian.AppendUint32(frame, uint32(len(values)))
	return sum(1, append(frame, values...))
}

// isSame reports whether two registers are equal, where nil lists and empty ones are.
func isSame(a, b api.Registers) bool {
	return a.Updates == b.Updates && slices.EqualFunc(a.Banks, b.Banks, func(x, y [][]byte) bool {
		return slices.EqualFunc(x, y, bytes.Equal)
	})
}

// check complains unless r is what the model says.
func check(t *testing.T, what string, r api.Registers, m model) {
	t.Helper()
	if !isSame(r, m.registers()) {
		t.Errorf("%s: %x, want %x", what, r, m.registers())
	}
}

// refuse complains unless a call has returned an error and no registers.
func refuse(t *testing.T, what string, r api.Registers, err, want api.Errno) {
	t.Helper()
	if err != want || !isSame(r, api.Registers{}) {
		t.Errorf("%s: error %d, want %d; %x", what, err, want, r)
	}
}

// must returns the registers of a call that has to succeed.
func must(t *testing.T, what string) func(r api.Registers, err api.Errno) api.Registers {
	return func(r api.Registers, err api.Errno) api.Registers {
		t.Helper()
		if err != api.OK {
			t.Fatalf("%s: error %d", what, err)
		}
		return r
	}
}

// used returns registers of which no two values of a bank are equal, and their model.
func used(t *testing.T, active int) (api.Registers, model) {
	t.Helper()
	r, m := registers.New(active), newModel(active)
	for i := range count {
		data := []byte{'u', byte(i)}
		r = must(t, "Event")(registers.Event(r, 4, i, data))
		m.extend(i, sum(0, data), sum(1, data))
	}
	check(t, "used", r, m)
	return r, m
}

// P8.1
func TestNew(t *testing.T) {
	for _, active := range []int{0, 1, 2, 3, 4, 5, 6, 7, 8, 255, 256, 257, 258, 1 << 32, 1<<32 + 2, -1, -2, -3, -4, math.MinInt, math.MinInt + 1, math.MaxInt, math.MaxInt - 1, math.MaxInt - 3} {
		r, m := registers.New(active), newModel(active)
		check(t, "New", r, m)
		for a := range banks {
			for i := range count {
				v, err := registers.Value(r, a, i)
				if !isActive(active, a) {
					if err != api.ErrBank || len(v) != 0 {
						t.Errorf("New(%d): bank %d, register %d: %x, error %d", active, a, i, v, err)
					}
					continue
				}
				want := make([]byte, sizes[a])
				if i >= 12 {
					want = bytes.Repeat([]byte{255}, sizes[a])
				}
				if err != api.OK || !bytes.Equal(v, want) {
					t.Errorf("New(%d): bank %d, register %d: %x, error %d", active, a, i, v, err)
				}
			}
		}
	}
}

// P8.1, the example
func TestNewOfExample(t *testing.T) {
	v, err := registers.Value(registers.New(1), 0, 12)
	if err != api.OK || hex.EncodeToString(v) != "ffffffffffffffffffffffffffffffffffffffff" {
		t.Errorf("%x, error %d", v, err)
	}
}

// P8.1
func TestValue(t *testing.T) {
	for active := range 4 {
		r, m := used(t, active)
		for a := range banks {
			for i := range count {
				v, err := registers.Value(r, a, i)
				if isActive(active, a) && (err != api.OK || string(v) != m.values[a][i]) {
					t.Errorf("active %d, bank %d, register %d: %x, error %d", active, a, i, v, err)
				}
				if !isActive(active, a) && (err != api.ErrBank || len(v) != 0) {
					t.Errorf("active %d, bank %d, register %d: %x, error %d", active, a, i, v, err)
				}
			}
		}
	}
}

// P8.1: ErrArgument comes before ErrBank.
func TestValueOfBadArguments(t *testing.T) {
	for active := range 4 {
		r := registers.New(active)
		none := func(bank, index int) {
			t.Helper()
			if v, err := registers.Value(r, bank, index); err != api.ErrArgument || len(v) != 0 {
				t.Errorf("active %d, bank %d, register %d: %x, error %d", active, bank, index, v, err)
			}
		}
		for _, bank := range badBanks {
			none(bank, 0)
			none(bank, 15)
			none(bank, 16)
		}
		for _, index := range badIndices {
			none(0, index)
			none(1, index)
			none(-1, index)
		}
	}
}

// P8.2
func TestExtend(t *testing.T) {
	for active := range 4 {
		for locality := range 5 {
			for index := range count {
				r, m := used(t, active)
				got, err := registers.Extend(r, locality, index, digestsOf(active, "one")...)
				if locality < leastExtend(index) {
					refuse(t, "Extend", got, err, api.ErrLocality)
					continue
				}
				m.extend(index, digestsOf(3, "one")...)
				check(t, "once", must(t, "Extend")(got, err), m)
				got, err = registers.Extend(got, locality, index, digestsOf(active, "two")...)
				m.extend(index, digestsOf(3, "two")...)
				check(t, "twice", must(t, "Extend")(got, err), m)
				if got.Updates != count+2 {
					t.Errorf("%d updates", got.Updates)
				}
			}
		}
	}
}

// P8.2: ErrArgument comes before all other errors.
func TestExtendOfBadArguments(t *testing.T) {
	for active := range 4 {
		r, good := registers.New(active), digestsOf(active, "d")
		for _, digests := range [][][]byte{good, {{1}, {2}}, digestsOf(^active&3, "d")} {
			for _, locality := range badLocalities {
				for index := -1; index <= count; index++ {
					got, err := registers.Extend(r, locality, index, digests...)
					refuse(t, "locality", got, err, api.ErrArgument)
				}
			}
			for _, index := range badIndices {
				for locality := -1; locality <= 5; locality++ {
					got, err := registers.Extend(r, locality, index, digests...)
					refuse(t, "index", got, err, api.ErrArgument)
				}
			}
		}
		for _, digests := range [][][]byte{nil, {}, good[:1], good[1:], {{}}, {{1}}, append(good[:2:2], nil), append(good[:2:2], good[0]), append(good[:2:2], good...), {nil, nil, nil}, make([][]byte, 258)} {
			for _, index := range []int{0, 11, 12, 14, 15} {
				for _, locality := range []int{0, 4} {
					got, err := registers.Extend(r, locality, index, digests...)
					refuse(t, "digests", got, err, api.ErrArgument)
				}
			}
		}
	}
}

// P8.2: the order of ErrLocality, ErrBank and ErrRange.
func TestExtendOfBadDigests(t *testing.T) {
	for active := range 4 {
		r := registers.New(active)
		for n0 := range 40 {
			for n1 := range 40 {
				digests := [][]byte{make([]byte, n0), make([]byte, n1)}
				want := api.OK
				for a, n := range []int{n0, n1} {
					if isActive(active, a) && n != sizes[a] && want == api.OK {
						want = api.ErrRange
					}
					if !isActive(active, a) && n != 0 {
						want = api.ErrBank
					}
				}
				got, err := registers.Extend(r, 0, 3, digests...)
				if want == api.OK {
					m := newModel(active)
					m.extend(3, make([]byte, 20), make([]byte, 32))
					check(t, "good digests", must(t, "Extend")(got, err), m)
				} else {
					refuse(t, "bad digests", got, err, want)
				}
				got, err = registers.Extend(r, 1, 14, digests...)
				refuse(t, "register 14", got, err, api.ErrLocality)
				got, err = registers.Extend(r, 2, 15, digests...)
				refuse(t, "register 15", got, err, api.ErrLocality)
			}
		}
	}
}

// P8.2: long digests, those with the length of another bank, and those whose length has the lowest bits of the right one.
func TestExtendOfLongDigests(t *testing.T) {
	for _, n := range []int{20, 32, 64, 256, 256 + 20, 256 + 32, 1<<16 + 20, 1<<16 + 32} {
		for active := 1; active < 4; active++ {
			for a := range banks {
				digests := digestsOf(active, "d")
				if digests[a] = make([]byte, n); n == sizes[a] && isActive(active, a) {
					continue
				}
				want := api.ErrRange
				if !isActive(active, a) {
					want = api.ErrBank
				}
				got, err := registers.Extend(registers.New(active), 4, 0, digests...)
				refuse(t, "long", got, err, want)
			}
		}
	}
}

// P8.2
func TestEvent(t *testing.T) {
	for active := range 4 {
		r, m := used(t, active)
		for n := range maxData + 1 {
			data := bytes.Repeat([]byte{byte(n)}, n)
			index, locality := n%count, 3+n%2
			got := must(t, "Event")(registers.Event(r, locality, index, data))
			want := m
			want.extend(index, sum(0, data), sum(1, data))
			check(t, "Event", got, want)
			same := must(t, "Extend")(registers.Extend(r, locality, index, digestsOf(active, string(data))...))
			check(t, "Extend", same, want)
		}
	}
}

// P8.2: Event has the localities and arguments of Extend, and ErrTooLong comes first.
func TestEventOfBadArguments(t *testing.T) {
	for active := range 4 {
		r := registers.New(active)
		for locality := range 5 {
			for index := range count {
				got, err := registers.Event(r, locality, index, []byte("data"))
				if locality < leastExtend(index) {
					refuse(t, "locality", got, err, api.ErrLocality)
					continue
				}
				m := newModel(active)
				m.extend(index, digestsOf(3, "data")...)
				check(t, "Event", must(t, "Event")(got, err), m)
			}
		}
		for _, locality := range badLocalities {
			got, err := registers.Event(r, locality, 15, nil)
			refuse(t, "locality", got, err, api.ErrArgument)
		}
		for _, index := range badIndices {
			got, err := registers.Event(r, 4, index, make([]byte, maxData))
			refuse(t, "index", got, err, api.ErrArgument)
		}
		for _, n := range []int{maxData + 1, maxData + 2, 256, 257, 1 << 16, 1<<16 + 1} {
			for _, locality := range []int{-1, 0, 4, 5} {
				for _, index := range []int{-1, 0, 15, 16} {
					got, err := registers.Event(r, locality, index, make([]byte, n))
					refuse(t, "long", got, err, api.ErrTooLong)
				}
			}
		}
	}
}

// P8.2
func TestReset(t *testing.T) {
	for active := range 4 {
		for locality := range 5 {
			for index := range count {
				r, m := used(t, active)
				got, err := registers.Reset(r, locality, index)
				if locality < leastReset(index) {
					refuse(t, "Reset", got, err, api.ErrLocality)
					continue
				}
				m.reset(index)
				check(t, "Reset", must(t, "Reset")(got, err), m)
				if got.Updates != count+1 {
					t.Errorf("%d updates", got.Updates)
				}
				got, err = registers.Reset(got, locality, index)
				m.reset(index)
				check(t, "again", must(t, "Reset")(got, err), m)
			}
		}
	}
}

// P8.2: ErrArgument comes before ErrLocality.
func TestResetOfBadArguments(t *testing.T) {
	for active := range 4 {
		r := registers.New(active)
		for _, locality := range badLocalities {
			for index := -1; index <= count; index++ {
				got, err := registers.Reset(r, locality, index)
				refuse(t, "locality", got, err, api.ErrArgument)
			}
		}
		for _, index := range badIndices {
			for locality := -1; locality <= 5; locality++ {
				got, err := registers.Reset(r, locality, index)
				refuse(t, "index", got, err, api.ErrArgument)
			}
		}
	}
}

// P8.3
func TestDigest(t *testing.T) {
	selections := []api.Selection{{}, {0xffff, 0}, {0, 0xffff}, {0xffff, 0xffff}, {0x00ff, 0xff00}, {0x0fff, 0xf000}, {3, 5}, {0x8001, 0x0180}}
	for i := range count {
		selections = append(selections, api.Selection{1 << i, 0}, api.Selection{0, 1 << i}, api.Selection{1 << i, 1 << i}, api.Selection{0xffff &^ (1 << i), 1 << i})
	}
	random := rand.New(rand.NewSource(8))
	for range 100 {
		selections = append(selections, api.Selection{random.Intn(1 << count), random.Intn(1 << count)})
	}
	for active := range 4 {
		r, m := used(t, active)
		for _, s := range selections {
			got, err := registers.Digest(r, s)
			if !isActive(active, 0) && s[0] != 0 || !isActive(active, 1) && s[1] != 0 {
				if err != api.ErrBank || len(got) != 0 {
					t.Errorf("active %d, %x: %x, error %d", active, s, got, err)
				}
			} else if err != api.OK || !bytes.Equal(got, m.digest(s)) {
				t.Errorf("active %d, %x: %x, error %d", active, s, got, err)
			}
		}
	}
}

// P8.3: ErrArgument comes before ErrBank.
func TestDigestOfBadSelections(t *testing.T) {
	for active := range 4 {
		r := registers.New(active)
		for _, bad := range []int{-1, -2, -65536, -65535, 65536, 65537, 1<<17 - 1, 1 << 20, 1 << 31, 1 << 32, 1<<32 + 1, math.MinInt, math.MinInt + 1, math.MaxInt} {
			for _, other := range []int{0, 1, 65535, bad} {
				for _, s := range []api.Selection{{bad, other}, {other, bad}} {
					if got, err := registers.Digest(r, s); err != api.ErrArgument || len(got) != 0 {
						t.Errorf("active %d, %x: %x, error %d", active, s, got, err)
					}
				}
			}
		}
	}
}

// P8.3: the digest says which registers were selected, also where their values are equal.
func TestDigestOfEqualValues(t *testing.T) {
	r, seen := registers.New(3), map[string]api.Selection{}
	for i := range count {
		for j := range count {
			s := api.Selection{1 << i, 1 << j}
			d, err := registers.Digest(r, s)
			if other, ok := seen[string(d)]; err != api.OK || ok {
				t.Errorf("%x and %x have the digest %x, error %d", other, s, d, err)
			}
			seen[string(d)] = s
		}
	}
}

// P8.4
func TestResume(t *testing.T) {
	for active := range 4 {
		for _, r := range []api.Registers{registers.New(active), registers.Resume(registers.New(active))} {
			check(t, "new", registers.Resume(r), newModel(active))
		}
		r, m := used(t, active)
		r = must(t, "Reset")(registers.Reset(r, 4, 13))
		m.reset(13)
		m.resume()
		check(t, "used", registers.Resume(r), m)
		if got := registers.Resume(r).Updates; got != count+1 {
			t.Errorf("%d updates", got)
		}
	}
}

// P8.4
func TestEncode(t *testing.T) {
	for active := range 4 {
		b := registers.Encode(registers.New(active))
		m := newModel(active)
		if !bytes.Equal(b, m.encode()) || len(b) != []int{9, 329, 521, 841}[active] {
			t.Errorf("active %d: %x", active, b)
		}
		r, m := used(t, active)
		for _, updates := range []int{0, 1, 255, 256, 65536, 0x0102030405060708, math.MaxInt} {
			r.Updates, m.updates = updates, updates
			if b := registers.Encode(r); !bytes.Equal(b, m.encode()) {
				t.Errorf("active %d, %d updates: %x", active, updates, b)
			}
			got, err := registers.Decode(m.encode())
			check(t, "Decode", must(t, "Decode")(got, err), m)
		}
	}
}

// P8.4: forms that are too short or too long.
func TestDecodeOfOtherLengths(t *testing.T) {
	for active := range 4 {
		_, m := used(t, active)
		form := m.encode()
		for n := range form {
			got, err := registers.Decode(form[:n])
			refuse(t, "short", got, err, api.ErrTruncated)
		}
		for _, n := range []int{1, 2, 20, 32, 320, 512, 1 << 16} {
			got, err := registers.Decode(append(slices.Clone(form), make([]byte, n)...))
			refuse(t, "long", got, err, api.ErrTrailing)
		}
	}
	got, err := registers.Decode(nil)
	refuse(t, "nil", got, err, api.ErrTruncated)
}

// P8.4: the order of the errors.
func TestDecodeOfBadForms(t *testing.T) {
	_, m := used(t, 3)
	for n := 1; n <= 900; n++ {
		form := append(m.encode(), make([]byte, 100)...)[:n]
		for first := 4; first < 256; first++ {
			form[0] = byte(first)
			got, err := registers.Decode(form)
			refuse(t, "first byte", got, err, api.ErrArgument)
		}
		for active := range 4 {
			want := api.ErrTooLong
			if n < 9 {
				want = api.ErrTruncated
			}
			for _, high := range []byte{0x80, 0xff} {
				if form[0] = byte(active); n > 1 {
					form[1] = high
				}
				got, err := registers.Decode(form)
				refuse(t, "updates", got, err, want)
			}
		}
	}
}

// P8.4: every other byte of a form leads to other registers.
func TestDecodeOfChangedBytes(t *testing.T) {
	for active := range 4 {
		_, m := used(t, active)
		for i := 2; i < len(m.encode()); i++ {
			form := m.encode()
			form[i] ^= 0x81
			r := must(t, "Decode")(registers.Decode(form))
			if got := registers.Encode(r); !bytes.Equal(got, form) {
				t.Errorf("active %d, byte %d: %x", active, i, got)
			}
		}
	}
}

// P8.5
func TestExtendsCommute(t *testing.T) {
	for active := range 4 {
		r, m := used(t, active)
		for i := range count {
			for j := range count {
				one, two := digestsOf(active, "one"), digestsOf(active, "two")
				left := must(t, "Extend")(registers.Extend(must(t, "Extend")(registers.Extend(r, 4, i, one...)), 3, j, two...))
				right := must(t, "Extend")(registers.Extend(must(t, "Extend")(registers.Extend(r, 3, j, two...)), 4, i, one...))
				if same := isSame(left, right); same != (i != j || active == 0) {
					t.Errorf("active %d, registers %d and %d: the results are equal: %t", active, i, j, same)
				}
				want := m
				want.extend(i, digestsOf(3, "one")...)
				want.extend(j, digestsOf(3, "two")...)
				check(t, "left", left, want)
			}
		}
	}
}

// P8.6: all lists of up to five of three digests lead to different values.
func TestListsOfDigestsAreTold(t *testing.T) {
	for _, index := range []int{0, 11, 12, 15} {
		made := map[string]api.Registers{"": registers.New(3)}
		for length := 1; length <= 5; length++ {
			next, seen := map[string]api.Registers{}, map[string]string{}
			for list, r := range made {
				for _, d := range []string{"a", "b", "c"} {
					next[list+d] = must(t, "Extend")(registers.Extend(r, 3, index, digestsOf(3, d)...))
					for a := range banks {
						v, _ := registers.Value(next[list+d], a, index)
						if other, ok := seen[string(v)]; ok {
							t.Errorf("register %d, bank %d: %s and %s have the value %x", index, a, other, list+d, v)
						}
						seen[string(v)] = list + d
					}
				}
			}
			made = next
		}
	}
}

// P8.2 to P8.4: values that were computed outside Go.
func TestKnownValues(t *testing.T) {
	r := must(t, "Event")(registers.Event(registers.New(3), 0, 0, []byte("boot")))
	r = must(t, "Extend")(registers.Extend(r, 1, 11, sum(0, []byte("x")), sum(1, []byte("x"))))
	r = must(t, "Event")(registers.Event(r, 2, 14, []byte("data")))
	r = must(t, "Reset")(registers.Reset(r, 0, 12))
	for _, c := range []struct {
		bank, index int
		want        string
	}{
		{0, 0, "d0f090e8a40e33aa5d82dd536e2bdd38ad9096f4"},
		{1, 0, "d65003de52b12528a1ecfedc8854e81fc8dcf52db0d49835d6ae99e2304c7c83"},
		{0, 11, "1d5f498c9d78fcd2895de291b09fbc625ebcd150"},
		{1, 11, "7f85193790de75e46b70bfec3614098f47332a6993dabac6e38ad35f47df5da4"},
		{0, 14, "ab44aded34b5203f301ddd7e6b0823f5e56fe2c4"},
		{1, 14, "39f710403dc5e3aa2e59900730e36a1fad25851ca7f98755ab7a498e22a0e6f7"},
		{0, 12, "0000000000000000000000000000000000000000"},
		{1, 13, "ffffffffffffffffffffffffffffffffffffffffffffffffffffffffffffffff"},
	} {
		if v, err := registers.Value(r, c.bank, c.index); err != api.OK || hex.EncodeToString(v) != c.want {
			t.Errorf("bank %d, register %d: %x, error %d", c.bank, c.index, v, err)
		}
	}
	for _, c := range []struct {
		s    api.Selection
		want string
	}{
		{api.Selection{0x0801, 0x5001}, "f9a8d2b366511a2fd4f25b2bbaa9be20db1c4adf1ef809cc327858ec927010c5"},
		{api.Selection{}, "4adaac2a51de65c30b585e82a8328c7f21dcc950150ca4fc1db0ed61442fc446"},
	} {
		if d, err := registers.Digest(r, c.s); err != api.OK || hex.EncodeToString(d) != c.want {
			t.Errorf("selection %x: %x, error %d", c.s, d, err)
		}
	}
	if b := registers.Encode(r); len(b) != 841 || hex.EncodeToString(sum(1, b)) != "09e276f1c2ac908adffe22226f975510558f3a5a6b3b933a9ac4a0fb812d2359" {
		t.Errorf("Encode: %x", b)
	}
}

// P8.1 to P8.4: long runs of calls, compared with the model after each of them.
func TestRuns(t *testing.T) {
	random := rand.New(rand.NewSource(88))
	for run := range 40 {
		active := run % 4
		r, m := registers.New(active), newModel(active)
		for range 100 {
			index, data := random.Intn(count), []byte{byte(random.Intn(256))}
			switch random.Intn(6) {
			case 0, 1:
				r = must(t, "Extend")(registers.Extend(r, 3, index, digestsOf(active, string(data))...))
				m.extend(index, sum(0, data), sum(1, data))
			case 2, 3:
				r = must(t, "Event")(registers.Event(r, 4, index, data))
				m.extend(index, sum(0, data), sum(1, data))
			case 4:
				index = dynamic + index%4
				r = must(t, "Reset")(registers.Reset(r, 4, index))
				m.reset(index)
			case 5:
				r = registers.Resume(must(t, "Decode")(registers.Decode(registers.Encode(r))))
				m.resume()
			}
			check(t, "run", r, m)
			if !bytes.Equal(registers.Encode(r), m.encode()) {
				t.Errorf("Encode: %x", registers.Encode(r))
			}
		}
	}
}

// inRoom returns a copy of a list of values that is followed by free memory, as are the values.
func inRoom(values [][]byte) [][]byte {
	roomy := make([][]byte, 0, len(values)+4)
	for _, v := range values {
		roomy = append(roomy, append(append(make([]byte, 0, len(v)+64), v...), bytes.Repeat([]byte{77}, 64)...)[:len(v)])
	}
	rest := [][]byte{{77}, {77}, {77}, {77}}
	return append(roomy, rest...)[:len(values)]
}

// isInRoom reports whether a list is still what inRoom returned for another list.
func isInRoom(roomy, values [][]byte) bool {
	for i, v := range roomy {
		if !bytes.Equal(v, values[i]) || !bytes.Equal(v[len(v):len(v)+64], bytes.Repeat([]byte{77}, 64)) {
			return false
		}
	}
	for _, v := range roomy[len(roomy):cap(roomy)] {
		if !bytes.Equal(v, []byte{77}) {
			return false
		}
	}
	return len(roomy) == len(values)
}

// registersInRoom returns a copy of r whose lists are followed by free memory.
func registersInRoom(r api.Registers) api.Registers {
	var lists [][][]byte
	for _, values := range r.Banks {
		lists = append(lists, inRoom(values))
	}
	return api.Registers{Banks: lists, Updates: r.Updates}
}

// overwrite spoils a result with all of its memory.
func overwrite(r api.Registers) {
	all := r.Banks[:cap(r.Banks)]
	for a := range all {
		values := all[a][:cap(all[a])]
		for i := range values {
			spoil(values[i])
			values[i] = []byte{99}
		}
		all[a] = nil
	}
}

func spoil(b []byte) {
	for i := range b[:cap(b)] {
		b[:cap(b)][i] = 99
	}
}

// R4
func TestArgumentsAndResultsAreApart(t *testing.T) {
	for active := range 4 {
		made, m := used(t, active)
		r := registersInRoom(made)
		plain := digestsOf(active, "d")
		digests, data := inRoom(plain), inRoom([][]byte{[]byte("data")})
		form := inRoom([][]byte{m.encode()})
		s := api.Selection{}
		for a := range banks {
			if isActive(active, a) {
				s[a] = 0xffff
				v, _ := registers.Value(r, a, 5)
				spoil(v)
			}
		}
		for index := range count {
			overwrite(must(t, "Extend")(registers.Extend(r, 4, index, digests...)))
			overwrite(must(t, "Event")(registers.Event(r, 4, index, data[0])))
			if index >= dynamic {
				overwrite(must(t, "Reset")(registers.Reset(r, 4, index)))
			}
		}
		overwrite(registers.Resume(r))
		overwrite(must(t, "Decode")(registers.Decode(form[0])))
		spoil(registers.Encode(r))
		d, _ := registers.Digest(r, s)
		spoil(d)
		check(t, "argument", r, m)
		for a := range r.Banks {
			if !isInRoom(r.Banks[a], made.Banks[a]) {
				t.Errorf("active %d: memory behind bank %d has been changed", active, a)
			}
		}
		if !isInRoom(digests, plain) || !isInRoom(data, [][]byte{[]byte("data")}) || !isInRoom(form, [][]byte{m.encode()}) {
			t.Errorf("active %d: a list that was passed has been changed", active)
		}
	}
}

// R4: no two values of a result share memory.
func TestValuesAreApart(t *testing.T) {
	for active := 1; active < 4; active++ {
		r, m := used(t, active)
		for what, r := range map[string]api.Registers{
			"New":    registers.New(active),
			"Extend": must(t, "Extend")(registers.Extend(r, 4, 3, digestsOf(active, "d")...)),
			"Reset":  must(t, "Reset")(registers.Reset(r, 4, 14)),
			"Resume": registers.Resume(r),
			"Decode": must(t, "Decode")(registers.Decode(m.encode())),
		} {
			for a := range r.Banks {
				for i := range r.Banks[a] {
					before := registersInRoom(r)
					before.Banks[a][i] = nil
					spoil(r.Banks[a][i])
					r.Banks[a][i] = nil
					if !isSame(r, before) {
						t.Errorf("%s: register %d of bank %d shares its memory", what, i, a)
					}
				}
			}
		}
	}
}

// R2, R4: empty lists mean the same as nil ones.
func TestEmptyLists(t *testing.T) {
	for active := range 3 {
		r, m := used(t, active)
		empty := [][]byte{{}, {}}
		for a, values := range r.Banks {
			if len(values) == 0 {
				r.Banks[a] = [][]byte{}
			}
		}
		if active == 0 {
			r.Banks = [][][]byte{}
		}
		digests := digestsOf(active, "d")
		for a := range banks {
			if !isActive(active, a) {
				digests[a] = empty[a]
			}
		}
		if b := registers.Encode(r); !bytes.Equal(b, m.encode()) {
			t.Errorf("active %d: %x", active, b)
		}
		r = must(t, "Extend")(registers.Extend(r, 0, 1, digests...))
		m.extend(1, digestsOf(3, "d")...)
		check(t, "Extend", r, m)
		one := must(t, "Event")(registers.Event(r, 0, 2, nil))
		two := must(t, "Event")(registers.Event(r, 0, 2, []byte{}))
		m.extend(2, digestsOf(3, "")...)
		check(t, "nil", one, m)
		check(t, "empty", two, m)
	}
}

// deepCopy returns a copy of r that shares no memory with it.
func deepCopy(r api.Registers) api.Registers {
	c := api.Registers{Updates: r.Updates}
	for _, values := range r.Banks {
		var list [][]byte
		for _, v := range values {
			list = append(list, bytes.Clone(v))
		}
		c.Banks = append(c.Banks, list)
	}
	return c
}

// R1, R4: registers that no function made.
func TestNothingPanics(t *testing.T) {
	odd := [][][][]byte{
		nil, {}, {nil}, {nil, nil}, {{}, {}}, {{nil}}, {{{1}}, {{2}}}, {{{1}, {2}, {3}}},
		{make([][]byte, 15), make([][]byte, 17)}, {make([][]byte, 16), make([][]byte, 16)},
		{make([][]byte, 16)}, {nil, make([][]byte, 16), make([][]byte, 16)}, {make([][]byte, 300), {{1}}, nil, nil},
	}
	for _, lists := range odd {
		for _, updates := range []int{0, -1, math.MinInt, math.MaxInt} {
			r := api.Registers{Banks: lists, Updates: updates}
			before := deepCopy(r)
			for bank := -1; bank <= 4; bank++ {
				for index := -1; index <= 17; index++ {
					registers.Value(r, bank, index)
				}
			}
			for index := range count {
				for n := range 4 {
					registers.Extend(r, 4, index, digestsOf(n, "d")...)
				}
				registers.Event(r, 4, index, []byte("d"))
				registers.Reset(r, 4, index)
				registers.Digest(r, api.Selection{1 << index, 0})
				registers.Digest(r, api.Selection{0, 1 << index})
			}
			registers.Digest(r, api.Selection{0xffff, 0xffff})
			registers.Resume(r)
			registers.Encode(r)
			if !isSame(r, before) {
				t.Errorf("%x has become %x", before, r)
			}
		}
	}
}

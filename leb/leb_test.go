package leb

import (
	"bytes"
	"math"
	"math/big"
	"slices"
	"testing"

	"trammel/api"
)

func fits(n uint64, bits int) bool { return bits == 64 || n < 1<<bits }

func fitsSigned(n int64, bits int) bool {
	return n>>(bits-1) == 0 || n>>(bits-1) == -1
}

// model reads a number in the chapter's words, with numbers that have no end, and shares no
// step with the package: the value is worked out whole and only then held against its range.
func model(b []byte, bits int, signed bool) (*big.Int, int, api.Errno) {
	if bits < 1 || bits > 64 {
		return new(big.Int), 0, api.ErrArg
	}
	most := 1
	for most*7 < bits {
		most++
	}
	n := new(big.Int)
	for i := 0; ; i++ {
		if i == len(b) {
			return new(big.Int), 0, api.ErrShort
		}
		n.Add(n, new(big.Int).Lsh(big.NewInt(int64(b[i]%128)), uint(7*i)))
		if i+1 == most && b[i] >= 128 {
			return new(big.Int), 0, api.ErrForm
		}
		if b[i] >= 128 {
			continue
		}
		if signed && b[i] >= 64 {
			n.Sub(n, new(big.Int).Lsh(big.NewInt(1), uint(7*(i+1))))
		}
		if !within(n, bits, signed) {
			return new(big.Int), 0, api.ErrForm
		}
		return n, i + 1, api.OK
	}
}

func within(n *big.Int, bits int, signed bool) bool {
	low, high := new(big.Int), new(big.Int).Lsh(big.NewInt(1), uint(bits))
	if signed {
		high.Rsh(high, 1)
		low.Neg(high)
	}
	return n.Cmp(low) >= 0 && n.Cmp(high) < 0
}

func againstModel(t *testing.T, b []byte, bits int) {
	t.Helper()
	wantU, size, e := model(b, bits, false)
	if n, k, f := U(b, bits); n != wantU.Uint64() || k != size || f != e {
		t.Errorf("U(% x, %d) = %d, %d, %d; want %d, %d, %d", b, bits, n, k, f, wantU, size, e)
	}
	wantS, size, e := model(b, bits, true)
	if n, k, f := S(b, bits); n != wantS.Int64() || k != size || f != e {
		t.Errorf("S(% x, %d) = %d, %d, %d; want %d, %d, %d", b, bits, n, k, f, wantS, size, e)
	}
}

func allWidths(t *testing.T, b []byte) {
	t.Helper()
	for bits := -1; bits <= 66; bits++ {
		againstModel(t, b, bits)
	}
}

// P1.1: the examples and the edges that the chapter names, written out.
func TestUnsigned(t *testing.T) {
	ff := bytes.Repeat([]byte{0xff}, 9)
	zeros := bytes.Repeat([]byte{0x80}, 9)
	for _, c := range []struct {
		b    []byte
		bits int
		n    uint64
		size int
		e    api.Errno
	}{
		{[]byte{0xe5, 0x8e, 0x26}, 32, 624485, 3, api.OK},
		{[]byte{0xe5, 0x8e, 0x26, 0xff, 0xff}, 20, 624485, 3, api.OK},
		{[]byte{0xe5, 0x8e, 0x26}, 19, 0, 0, api.ErrForm},
		{[]byte{0xe5, 0x8e, 0x26}, 14, 0, 0, api.ErrForm},
		{[]byte{0x83, 0x10}, 8, 0, 0, api.ErrForm},
		{[]byte{0x83, 0x00}, 8, 3, 2, api.OK},
		{[]byte{0x83, 0x01}, 8, 131, 2, api.OK},
		{[]byte{0x83, 0x02}, 8, 0, 0, api.ErrForm},
		{[]byte{0}, 1, 0, 1, api.OK},
		{[]byte{1}, 1, 1, 1, api.OK},
		{[]byte{2}, 1, 0, 0, api.ErrForm},
		{[]byte{0x40}, 1, 0, 0, api.ErrForm},
		{[]byte{0x80}, 1, 0, 0, api.ErrForm},
		{[]byte{0x80, 0}, 7, 0, 0, api.ErrForm},
		{[]byte{0x80, 0}, 8, 0, 2, api.OK},
		{[]byte{0x7f}, 7, 127, 1, api.OK},
		{[]byte{0x7f}, 6, 0, 0, api.ErrForm},
		{append(slices.Clone(ff), 1), 64, math.MaxUint64, 10, api.OK},
		{append(slices.Clone(ff), 2), 64, 0, 0, api.ErrForm},
		{append(slices.Clone(ff), 0x7f), 64, 0, 0, api.ErrForm},
		{append(slices.Clone(ff), 0x81), 64, 0, 0, api.ErrForm},
		{append(slices.Clone(zeros), 0), 64, 0, 10, api.OK},
		{append(slices.Clone(zeros), 1), 64, 1 << 63, 10, api.OK},
		{append(slices.Clone(zeros), 0), 63, 0, 0, api.ErrForm},
		{append(slices.Clone(ff[:8]), 0x7f), 63, 1<<63 - 1, 9, api.OK},
		{append(slices.Clone(ff[:8]), 0x7f), 62, 0, 0, api.ErrForm},
		{ff, 64, 0, 0, api.ErrShort},
		{ff, 63, 0, 0, api.ErrForm},
		{nil, 1, 0, 0, api.ErrShort},
		{[]byte{}, 64, 0, 0, api.ErrShort},
		{[]byte{0x80}, 8, 0, 0, api.ErrShort},
		{[]byte{5}, 0, 0, 0, api.ErrArg},
		{[]byte{5}, 65, 0, 0, api.ErrArg},
		{nil, -1, 0, 0, api.ErrArg},
		{[]byte{5}, math.MinInt, 0, 0, api.ErrArg},
		{[]byte{5}, math.MaxInt, 0, 0, api.ErrArg},
	} {
		if n, k, e := U(c.b, c.bits); n != c.n || k != c.size || e != c.e {
			t.Errorf("U(% x, %d) = %d, %d, %d; want %d, %d, %d", c.b, c.bits, n, k, e, c.n, c.size, c.e)
		}
	}
}

// P1.1: the same of signed numbers, where the bits beyond follow the sign bit.
func TestSigned(t *testing.T) {
	ff := bytes.Repeat([]byte{0xff}, 9)
	zeros := bytes.Repeat([]byte{0x80}, 9)
	for _, c := range []struct {
		b    []byte
		bits int
		n    int64
		size int
		e    api.Errno
	}{
		{[]byte{0xc0, 0xbb, 0x78}, 32, -123456, 3, api.OK},
		{[]byte{0xc0, 0xbb, 0x78, 0x01}, 18, -123456, 3, api.OK},
		{[]byte{0xc0, 0xbb, 0x78}, 17, 0, 0, api.ErrForm},
		{[]byte{0x40}, 33, -64, 1, api.OK},
		{[]byte{0x40}, 7, -64, 1, api.OK},
		{[]byte{0x40}, 6, 0, 0, api.ErrForm},
		{[]byte{0x3f}, 7, 63, 1, api.OK},
		{[]byte{0xc0, 0x00}, 8, 64, 2, api.OK},
		{[]byte{0xff, 0x00}, 8, 127, 2, api.OK},
		{[]byte{0xff, 0x01}, 8, 0, 0, api.ErrForm},
		{[]byte{0x80, 0x7f}, 8, -128, 2, api.OK},
		{[]byte{0x80, 0x7e}, 8, 0, 0, api.ErrForm},
		{[]byte{0x80, 0x3f}, 8, 0, 0, api.ErrForm},
		{[]byte{0}, 1, 0, 1, api.OK},
		{[]byte{0x7f}, 1, -1, 1, api.OK},
		{[]byte{1}, 1, 0, 0, api.ErrForm},
		{[]byte{0x3f}, 1, 0, 0, api.ErrForm},
		{[]byte{0x7e}, 1, 0, 0, api.ErrForm},
		{[]byte{0xff}, 1, 0, 0, api.ErrForm},
		{append(slices.Clone(ff), 0x7f), 64, -1, 10, api.OK},
		{append(slices.Clone(ff), 0), 64, math.MaxInt64, 10, api.OK},
		{append(slices.Clone(zeros), 0x7f), 64, math.MinInt64, 10, api.OK},
		{append(slices.Clone(zeros), 1), 64, 0, 0, api.ErrForm},
		{append(slices.Clone(zeros), 0x3f), 64, 0, 0, api.ErrForm},
		{append(slices.Clone(zeros), 0x7e), 64, 0, 0, api.ErrForm},
		{append(slices.Clone(zeros), 0xff), 64, 0, 0, api.ErrForm},
		{append(slices.Clone(zeros[:8]), 0x40), 64, -1 << 62, 9, api.OK},
		{append(slices.Clone(zeros[:8]), 0x40), 63, -1 << 62, 9, api.OK},
		{append(slices.Clone(zeros[:8]), 0x40), 62, 0, 0, api.ErrForm},
		{append(slices.Clone(ff), 0x7f), 63, 0, 0, api.ErrForm},
		{ff, 64, 0, 0, api.ErrShort},
		{ff, 63, 0, 0, api.ErrForm},
		{nil, 1, 0, 0, api.ErrShort},
		{[]byte{}, 64, 0, 0, api.ErrShort},
		{[]byte{0xff}, 8, 0, 0, api.ErrShort},
		{[]byte{5}, 0, 0, 0, api.ErrArg},
		{[]byte{5}, 65, 0, 0, api.ErrArg},
		{nil, -1, 0, 0, api.ErrArg},
		{[]byte{5}, math.MinInt, 0, 0, api.ErrArg},
		{[]byte{5}, math.MaxInt, 0, 0, api.ErrArg},
	} {
		if n, k, e := S(c.b, c.bits); n != c.n || k != c.size || e != c.e {
			t.Errorf("S(% x, %d) = %d, %d, %d; want %d, %d, %d", c.b, c.bits, n, k, e, c.n, c.size, c.e)
		}
	}
}

// P1.1: all forms of up to two bytes, by all widths.
func TestShortForms(t *testing.T) {
	allWidths(t, nil)
	for a := range 256 {
		allWidths(t, []byte{byte(a)})
		for b := range 256 {
			allWidths(t, []byte{byte(a), byte(b)})
		}
	}
}

// P1.1: long forms. The last byte goes through all its values behind every number of bytes
// that lead to it, so that each width's most-th byte is met whole.
func TestLongForms(t *testing.T) {
	for lead := 0; lead <= 11; lead++ {
		for _, fill := range []byte{0x80, 0xff, 0xd5, 0xaa, 0xc0, 0xbf} {
			b := bytes.Repeat([]byte{fill}, lead)
			allWidths(t, b)
			for last := range 256 {
				allWidths(t, append(slices.Clone(b), byte(last)))
			}
		}
	}
}

// edges are numbers around each power of two, and some without a pattern.
func edges() []uint64 {
	list := []uint64{0, 3, 624485, 0x5555555555555555, 0xaaaaaaaaaaaaaaaa}
	for i := range 64 {
		p := uint64(1) << i
		list = append(list, p-1, p, p+1, -p, -p-1, -p+1)
	}
	n := uint64(1)
	for i := range 2000 {
		n = n*6364136223846793005 + 1442695040888963407
		list = append(list, n>>(i%64))
	}
	return list
}

// P1.2: the examples, and the numbers at which a byte more is needed.
func TestPut(t *testing.T) {
	for _, c := range []struct {
		n uint64
		b []byte
	}{
		{0, []byte{0}},
		{3, []byte{3}},
		{64, []byte{0x40}},
		{127, []byte{0x7f}},
		{128, []byte{0x80, 1}},
		{624485, []byte{0xe5, 0x8e, 0x26}},
		{1<<32 - 1, []byte{0xff, 0xff, 0xff, 0xff, 0x0f}},
		{1<<63 - 1, append(bytes.Repeat([]byte{0xff}, 8), 0x7f)},
		{1 << 63, append(bytes.Repeat([]byte{0x80}, 9), 1)},
		{math.MaxUint64, append(bytes.Repeat([]byte{0xff}, 9), 1)},
	} {
		if b := PutU(nil, c.n); !bytes.Equal(b, c.b) {
			t.Errorf("PutU(%d) = % x; want % x", c.n, b, c.b)
		}
	}
	for _, c := range []struct {
		n int64
		b []byte
	}{
		{0, []byte{0}},
		{63, []byte{0x3f}},
		{64, []byte{0xc0, 0}},
		{-1, []byte{0x7f}},
		{-64, []byte{0x40}},
		{-65, []byte{0xbf, 0x7f}},
		{127, []byte{0xff, 0}},
		{-128, []byte{0x80, 0x7f}},
		{-123456, []byte{0xc0, 0xbb, 0x78}},
		{math.MaxInt64, append(bytes.Repeat([]byte{0xff}, 9), 0)},
		{math.MinInt64, append(bytes.Repeat([]byte{0x80}, 9), 0x7f)},
		{1<<62 - 1, append(bytes.Repeat([]byte{0xff}, 8), 0x3f)},
		{-1 << 62, append(bytes.Repeat([]byte{0x80}, 8), 0x40)},
	} {
		if b := PutS(nil, c.n); !bytes.Equal(b, c.b) {
			t.Errorf("PutS(%d) = % x; want % x", c.n, b, c.b)
		}
	}
}

// P1.2: what stands ahead stays, and neither it nor its spare room is written or kept.
func TestPutBehind(t *testing.T) {
	put := []struct {
		name string
		call func([]byte) []byte
		tail []byte
	}{
		{"PutU", func(b []byte) []byte { return PutU(b, 624485) }, []byte{0xe5, 0x8e, 0x26}},
		{"PutS", func(b []byte) []byte { return PutS(b, -123456) }, []byte{0xc0, 0xbb, 0x78}},
	}
	for _, p := range put {
		room := bytes.Repeat([]byte{0x11}, 32)
		for _, size := range []int{0, 1, 16, 32} {
			got := p.call(room[:size])
			if !bytes.Equal(got[:size], room[:size]) || !bytes.Equal(got[size:], p.tail) {
				t.Errorf("%s behind %d bytes: % x", p.name, size, got)
			}
			for i := range got {
				got[i] = 0xee
			}
			if !bytes.Equal(room, bytes.Repeat([]byte{0x11}, 32)) {
				t.Fatalf("%s behind %d bytes shares memory: % x", p.name, size, room)
			}
		}
	}
}

// P1.3: what was put is read by every width that has room, whole and with bytes behind it;
// by a width that has none it is refused.
func TestPutIsRead(t *testing.T) {
	for _, n := range edges() {
		u, s := PutU(nil, n), PutS(nil, int64(n))
		for bits := 1; bits <= 64; bits++ {
			if fits(n, bits) {
				sameU(t, u, bits, n)
				sameU(t, append(slices.Clone(u), 0xff), bits, n)
			} else if _, _, e := U(u, bits); e != api.ErrForm {
				t.Errorf("U(% x, %d): %d", u, bits, e)
			}
			if fitsSigned(int64(n), bits) {
				sameS(t, s, bits, int64(n))
				sameS(t, append(slices.Clone(s), 0xff), bits, int64(n))
			} else if _, _, e := S(s, bits); e != api.ErrForm {
				t.Errorf("S(% x, %d): %d", s, bits, e)
			}
		}
	}
}

func sameU(t *testing.T, b []byte, bits int, want uint64) {
	t.Helper()
	size := len(PutU(nil, want))
	if n, k, e := U(b, bits); n != want || k != size || e != api.OK {
		t.Errorf("U(% x, %d) = %d, %d, %d; want %d", b, bits, n, k, e, want)
	}
}

func sameS(t *testing.T, b []byte, bits int, want int64) {
	t.Helper()
	size := len(PutS(nil, want))
	if n, k, e := S(b, bits); n != want || k != size || e != api.OK {
		t.Errorf("S(% x, %d) = %d, %d, %d; want %d", b, bits, n, k, e, want)
	}
}

// P1.3: a form of k bytes has 7k bits, so a number that is put into k+1 bytes lies outside
// of what k bytes can say; and every form that is read is at least as long as the put one.
func TestPutIsShortest(t *testing.T) {
	for _, n := range edges() {
		if k := len(PutU(nil, n)); k < 1 || k > 1 && fits(n, 7*(k-1)) {
			t.Errorf("PutU(%d) has %d bytes", n, k)
		}
		if k := len(PutS(nil, int64(n))); k < 1 || k > 1 && fitsSigned(int64(n), 7*(k-1)) {
			t.Errorf("PutS(%d) has %d bytes", int64(n), k)
		}
	}
	for a := range 256 {
		for b := range 256 {
			notShorter(t, []byte{byte(a), byte(b)})
			notShorter(t, []byte{0x80, byte(a), byte(b)})
			notShorter(t, []byte{0xff, byte(a), byte(b)})
		}
	}
}

func notShorter(t *testing.T, b []byte) {
	t.Helper()
	for _, bits := range []int{1, 6, 7, 8, 14, 15, 32, 33, 64} {
		if n, k, e := U(b, bits); e == api.OK && k < len(PutU(nil, n)) {
			t.Errorf("U(% x, %d) has %d bytes, PutU more", b, bits, k)
		}
		if n, k, e := S(b, bits); e == api.OK && k < len(PutS(nil, n)) {
			t.Errorf("S(% x, %d) has %d bytes, PutS more", b, bits, k)
		}
	}
}

// What is handed in to be read is not changed.
func TestReadChangesNothing(t *testing.T) {
	b := []byte{0xe5, 0x8e, 0x26, 0x99}
	U(b, 32)
	S(b, 32)
	if !bytes.Equal(b, []byte{0xe5, 0x8e, 0x26, 0x99}) {
		t.Errorf("% x", b)
	}
}

func FuzzAgainstModel(f *testing.F) {
	f.Add([]byte{0xe5, 0x8e, 0x26}, 32)
	f.Add([]byte{0x80}, 0)
	f.Add(bytes.Repeat([]byte{0xff}, 10), 64)
	f.Fuzz(func(t *testing.T, b []byte, bits int) {
		againstModel(t, b, bits)
		againstModel(t, b, int(uint(bits)%64)+1)
	})
}

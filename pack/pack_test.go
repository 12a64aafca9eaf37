package pack

import (
	"bytes"
	"encoding/binary"
	"math"
	"slices"
	"testing"

	"trammel/api"
)

// row is what the chapter's table says of a code. The number of a load is worked out by the
// language's own numbers of 8, 16, 32 and 64 bits, and shares no step with the package.
type row struct {
	op, typ, size int
	number        func(b []byte) uint64 // nil: a store
}

func half(b []byte) uint16  { return binary.LittleEndian.Uint16(b) }
func word(b []byte) uint32  { return binary.LittleEndian.Uint32(b) }
func whole(b []byte) uint64 { return binary.LittleEndian.Uint64(b) }

func loads() []row {
	return []row{
		{0x28, api.I32, 4, func(b []byte) uint64 { return uint64(word(b)) }},
		{0x29, api.I64, 8, whole},
		{0x2c, api.I32, 1, func(b []byte) uint64 { return uint64(uint32(int8(b[0]))) }},
		{0x2d, api.I32, 1, func(b []byte) uint64 { return uint64(b[0]) }},
		{0x2e, api.I32, 2, func(b []byte) uint64 { return uint64(uint32(int16(half(b)))) }},
		{0x2f, api.I32, 2, func(b []byte) uint64 { return uint64(half(b)) }},
		{0x30, api.I64, 1, func(b []byte) uint64 { return uint64(int8(b[0])) }},
		{0x31, api.I64, 1, func(b []byte) uint64 { return uint64(b[0]) }},
		{0x32, api.I64, 2, func(b []byte) uint64 { return uint64(int16(half(b))) }},
		{0x33, api.I64, 2, func(b []byte) uint64 { return uint64(half(b)) }},
		{0x34, api.I64, 4, func(b []byte) uint64 { return uint64(int32(word(b))) }},
		{0x35, api.I64, 4, func(b []byte) uint64 { return uint64(word(b)) }},
	}
}

func stores() []row {
	return []row{
		{0x36, api.I32, 4, nil}, {0x37, api.I64, 8, nil},
		{0x3a, api.I32, 1, nil}, {0x3b, api.I32, 2, nil},
		{0x3c, api.I64, 1, nil}, {0x3d, api.I64, 2, nil}, {0x3e, api.I64, 4, nil},
	}
}

func has(rows []row, op int) bool {
	return slices.ContainsFunc(rows, func(r row) bool { return r.op == op })
}

// edges are small numbers and, of each width, the greatest and the least, signed and unsigned,
// with their neighbours; and numbers of which no two bytes are the same.
func edges() []uint64 {
	ns := []uint64{0x0123456789abcdef, 0xfedcba9876543210, 0x7f80ff01807ffe00, 0x12345}
	for n := range uint64(4) {
		ns = append(ns, n, -n)
	}
	for _, k := range []int{7, 8, 15, 16, 31, 32, 63} {
		p := uint64(1) << k
		ns = append(ns, p-1, p, p+1, -p, -p-1, -p+1)
	}
	slices.Sort(ns)
	return slices.Compact(ns)
}

// laid is the lowest bytes of a number, the lowest first.
func laid(n uint64, size int) []byte {
	return binary.LittleEndian.AppendUint64(nil, n)[:size]
}

// others is codes that are no access, or might be taken for one: all that are near, those of
// other instructions, and accesses with more bits above them or with the sign changed.
func others() []int {
	codes := []int{math.MinInt, math.MinInt + 1, math.MaxInt - 1, math.MaxInt}
	for code := -0x1100; code <= 0x1100; code++ {
		codes = append(codes, code)
	}
	for code := range 0x100 {
		for _, k := range []int{8, 16, 31, 32, 63} {
			codes = append(codes, code|1<<k, code-1<<k, code|-1<<k)
		}
		codes = append(codes, ^code, -code)
	}
	return codes
}

func sameLoad(t *testing.T, op int, b []byte, want uint64) {
	t.Helper()
	if n, ok := Load(op, b); n != want || !ok {
		t.Errorf("Load(%x, % x) = %x, %t; want %x", op, b, n, ok, want)
	}
}

func noLoad(t *testing.T, op int, b []byte) {
	t.Helper()
	if n, ok := Load(op, b); n != 0 || ok {
		t.Errorf("Load(%x, % x) = %x, %t; want none", op, b, n, ok)
	}
}

func sameStore(t *testing.T, op int, n uint64, want []byte) {
	t.Helper()
	if b, ok := Store(op, n); !bytes.Equal(b, want) || !ok {
		t.Errorf("Store(%x, %x) = % x, %t; want % x", op, n, b, ok, want)
	}
}

func noStore(t *testing.T, op int, n uint64) {
	t.Helper()
	if b, ok := Store(op, n); len(b) != 0 || ok {
		t.Errorf("Store(%x, %x) = % x, %t; want none", op, n, b, ok)
	}
}

// P4.1: every code of the table, and beside the false of every other nothing.
func TestAccess(t *testing.T) {
	same := func(r row, wantStore bool) {
		if typ, size, store, ok := Access(r.op); typ != r.typ || size != r.size || store != wantStore || !ok {
			t.Errorf("Access(%x) = %x, %d, %t, %t; want %x, %d, %t", r.op, typ, size, store, ok, r.typ, r.size, wantStore)
		}
	}
	for _, r := range loads() {
		same(r, false)
	}
	for _, r := range stores() {
		same(r, true)
	}
	for _, op := range others() {
		if has(loads(), op) || has(stores(), op) {
			continue
		}
		if typ, size, store, ok := Access(op); typ != 0 || size != 0 || store || ok {
			t.Errorf("Access(%x) = %x, %d, %t, %t; want none", op, typ, size, store, ok)
		}
	}
}

// P4.2: loads written out: the chapter's example; 0, 1, the greatest and the least, the highest
// bit that is loaded 0 and 1, and the lowest byte first.
func TestLoadWritten(t *testing.T) {
	for _, c := range []struct {
		op int
		b  []byte
		n  uint64
	}{
		{0x28, []byte{0, 0, 0, 0}, 0}, {0x28, []byte{1, 0, 0, 0}, 1}, {0x28, []byte{1, 2, 3, 4}, 0x04030201},
		{0x28, []byte{0xff, 0xff, 0xff, 0x7f}, 0x7fffffff}, {0x28, []byte{0, 0, 0, 0x80}, 0x80000000}, {0x28, []byte{0xff, 0xff, 0xff, 0xff}, 0xffffffff},
		{0x29, []byte{0, 0, 0, 0, 0, 0, 0, 0}, 0}, {0x29, []byte{1, 0, 0, 0, 0, 0, 0, 0}, 1}, {0x29, []byte{1, 2, 3, 4, 5, 6, 7, 8}, 0x0807060504030201},
		{0x29, []byte{0xff, 0xff, 0xff, 0xff, 0xff, 0xff, 0xff, 0x7f}, 0x7fffffffffffffff}, {0x29, []byte{0, 0, 0, 0, 0, 0, 0, 0x80}, 0x8000000000000000},
		{0x29, []byte{0xff, 0xff, 0xff, 0xff, 0xff, 0xff, 0xff, 0xff}, 0xffffffffffffffff}, {0x29, []byte{0, 0, 0, 0x80, 0, 0, 0, 0}, 0x80000000},
		{0x2c, []byte{0}, 0}, {0x2c, []byte{1}, 1}, {0x2c, []byte{0x7f}, 0x7f}, {0x2c, []byte{0x80}, 0xffffff80}, {0x2c, []byte{0xff}, 0xffffffff},
		{0x2d, []byte{0}, 0}, {0x2d, []byte{1}, 1}, {0x2d, []byte{0x7f}, 0x7f}, {0x2d, []byte{0x80}, 0x80}, {0x2d, []byte{0xff}, 0xff},
		{0x2e, []byte{0, 0}, 0}, {0x2e, []byte{1, 2}, 0x201}, {0x2e, []byte{0xff, 0x7f}, 0x7fff}, {0x2e, []byte{0, 0x80}, 0xffff8000}, {0x2e, []byte{0xff, 0xff}, 0xffffffff}, {0x2e, []byte{0x80, 0}, 0x80},
		{0x2f, []byte{0, 0}, 0}, {0x2f, []byte{1, 2}, 0x201}, {0x2f, []byte{0xff, 0x7f}, 0x7fff}, {0x2f, []byte{0, 0x80}, 0x8000}, {0x2f, []byte{0xff, 0xff}, 0xffff},
		{0x30, []byte{0}, 0}, {0x30, []byte{1}, 1}, {0x30, []byte{0x7f}, 0x7f}, {0x30, []byte{0x80}, 0xffffffffffffff80}, {0x30, []byte{0xff}, 0xffffffffffffffff},
		{0x31, []byte{0}, 0}, {0x31, []byte{1}, 1}, {0x31, []byte{0x7f}, 0x7f}, {0x31, []byte{0x80}, 0x80}, {0x31, []byte{0xff}, 0xff},
		{0x32, []byte{0, 0}, 0}, {0x32, []byte{1, 2}, 0x201}, {0x32, []byte{0xff, 0x7f}, 0x7fff}, {0x32, []byte{0, 0x80}, 0xffffffffffff8000}, {0x32, []byte{0xff, 0xff}, 0xffffffffffffffff}, {0x32, []byte{0x80, 0}, 0x80},
		{0x33, []byte{0, 0}, 0}, {0x33, []byte{1, 2}, 0x201}, {0x33, []byte{0xff, 0x7f}, 0x7fff}, {0x33, []byte{0, 0x80}, 0x8000}, {0x33, []byte{0xff, 0xff}, 0xffff},
		{0x34, []byte{0, 0, 0, 0}, 0}, {0x34, []byte{1, 2, 3, 4}, 0x04030201}, {0x34, []byte{0xff, 0xff, 0xff, 0x7f}, 0x7fffffff},
		{0x34, []byte{0, 0, 0, 0x80}, 0xffffffff80000000}, {0x34, []byte{0xff, 0xff, 0xff, 0xff}, 0xffffffffffffffff}, {0x34, []byte{0, 0x80, 0, 0}, 0x8000},
		{0x35, []byte{0, 0, 0, 0}, 0}, {0x35, []byte{1, 2, 3, 4}, 0x04030201}, {0x35, []byte{0xff, 0xff, 0xff, 0x7f}, 0x7fffffff},
		{0x35, []byte{0, 0, 0, 0x80}, 0x80000000}, {0x35, []byte{0xff, 0xff, 0xff, 0xff}, 0xffffffff},
	} {
		sameLoad(t, c.op, c.b, c.n)
	}
}

// P4.2: stores written out: the chapter's example; of a number that is wider than what is laid,
// the lowest bytes alone, whatever stands above.
func TestStoreWritten(t *testing.T) {
	for _, c := range []struct {
		op int
		n  uint64
		b  []byte
	}{
		{0x36, 0, []byte{0, 0, 0, 0}}, {0x36, 1, []byte{1, 0, 0, 0}}, {0x36, 0x04030201, []byte{1, 2, 3, 4}}, {0x36, 0x7fffffff, []byte{0xff, 0xff, 0xff, 0x7f}},
		{0x36, 0x80000000, []byte{0, 0, 0, 0x80}}, {0x36, 0xffffffff, []byte{0xff, 0xff, 0xff, 0xff}}, {0x36, 0x0807060504030201, []byte{1, 2, 3, 4}}, {0x36, 1 << 32, []byte{0, 0, 0, 0}},
		{0x37, 0, []byte{0, 0, 0, 0, 0, 0, 0, 0}}, {0x37, 1, []byte{1, 0, 0, 0, 0, 0, 0, 0}}, {0x37, 0x0807060504030201, []byte{1, 2, 3, 4, 5, 6, 7, 8}},
		{0x37, 1<<63 - 1, []byte{0xff, 0xff, 0xff, 0xff, 0xff, 0xff, 0xff, 0x7f}}, {0x37, 1 << 63, []byte{0, 0, 0, 0, 0, 0, 0, 0x80}}, {0x37, math.MaxUint64, []byte{0xff, 0xff, 0xff, 0xff, 0xff, 0xff, 0xff, 0xff}},
		{0x3a, 0, []byte{0}}, {0x3a, 1, []byte{1}}, {0x3a, 0x7f, []byte{0x7f}}, {0x3a, 0x80, []byte{0x80}}, {0x3a, 0xff, []byte{0xff}}, {0x3a, 0x100, []byte{0}}, {0x3a, 0xffffff80, []byte{0x80}}, {0x3a, 0x0807060504030201, []byte{1}},
		{0x3b, 0, []byte{0, 0}}, {0x3b, 1, []byte{1, 0}}, {0x3b, 0x12345, []byte{0x45, 0x23}}, {0x3b, 0x7fff, []byte{0xff, 0x7f}}, {0x3b, 0x8000, []byte{0, 0x80}}, {0x3b, 0xffff, []byte{0xff, 0xff}}, {0x3b, 0x10000, []byte{0, 0}}, {0x3b, 0x0807060504030201, []byte{1, 2}},
		{0x3c, 0, []byte{0}}, {0x3c, 1, []byte{1}}, {0x3c, 0x7f, []byte{0x7f}}, {0x3c, 0x80, []byte{0x80}}, {0x3c, 0xff, []byte{0xff}}, {0x3c, 0x100, []byte{0}}, {0x3c, 0xffffffffffffff80, []byte{0x80}}, {0x3c, 0x0807060504030201, []byte{1}},
		{0x3d, 0, []byte{0, 0}}, {0x3d, 1, []byte{1, 0}}, {0x3d, 0x12345, []byte{0x45, 0x23}}, {0x3d, 0x7fff, []byte{0xff, 0x7f}}, {0x3d, 0x8000, []byte{0, 0x80}}, {0x3d, 0xffff, []byte{0xff, 0xff}}, {0x3d, 0x10000, []byte{0, 0}}, {0x3d, 0x0807060504030201, []byte{1, 2}},
		{0x3e, 0, []byte{0, 0, 0, 0}}, {0x3e, 1, []byte{1, 0, 0, 0}}, {0x3e, 0x7fffffff, []byte{0xff, 0xff, 0xff, 0x7f}}, {0x3e, 0x80000000, []byte{0, 0, 0, 0x80}}, {0x3e, 0xffffffff, []byte{0xff, 0xff, 0xff, 0xff}}, {0x3e, 1 << 32, []byte{0, 0, 0, 0}}, {0x3e, 0x0807060504030201, []byte{1, 2, 3, 4}},
	} {
		sameStore(t, c.op, c.n, c.b)
	}
}

// P4.2: every access at every edge, as the language's own numbers have it.
func TestAgainstModel(t *testing.T) {
	for _, n := range edges() {
		for _, r := range loads() {
			b := laid(n, r.size)
			sameLoad(t, r.op, b, r.number(b))
		}
		for _, r := range stores() {
			sameStore(t, r.op, n, laid(n, r.size))
		}
	}
}

// P4.2: loads of one and of two bytes, whatever the bytes.
func TestAllShortLoads(t *testing.T) {
	for _, r := range loads() {
		if r.size > 2 {
			continue
		}
		for n := range uint64(1) << (8 * r.size) {
			b := laid(n, r.size)
			sameLoad(t, r.op, b, r.number(b))
		}
	}
}

// P4.2: none, too few and too many bytes, those that another load has among them; what stands in
// the spare room behind them doesn't count.
func TestLoadOfOtherBytes(t *testing.T) {
	for _, r := range loads() {
		noLoad(t, r.op, nil)
		for _, x := range []byte{0, 1, 0x80, 0xff} {
			b := bytes.Repeat([]byte{x}, 20)
			for size := range b {
				if size == r.size {
					sameLoad(t, r.op, b[:size], r.number(b))
					continue
				}
				noLoad(t, r.op, b[:size])
			}
			noLoad(t, r.op, bytes.Repeat([]byte{x}, r.size+256))
			noLoad(t, r.op, bytes.Repeat([]byte{x}, r.size+1<<16))
		}
	}
}

// P4.2: codes that are no access, and each kind asked of the other's function.
func TestOtherCodes(t *testing.T) {
	rooms := [][]byte{nil, {}, {0xff}, {0xff, 0xff}, bytes.Repeat([]byte{0xff}, 4), bytes.Repeat([]byte{0xff}, 8)}
	for _, op := range others() {
		if !has(loads(), op) {
			for _, b := range rooms {
				noLoad(t, op, b)
			}
		}
		if !has(stores(), op) {
			noStore(t, op, 0)
			noStore(t, op, 0x12345)
			noStore(t, op, math.MaxUint64)
		}
	}
	for _, r := range stores() {
		noLoad(t, r.op, laid(math.MaxUint64, r.size))
	}
	for _, r := range loads() {
		noStore(t, r.op, math.MaxUint64)
	}
}

// cutTo is the lowest bytes of a number as a load of them has it: with a sign, all that stands
// above them on the type's bits is as their highest bit.
func cutTo(n uint64, size, typ int, signed bool) uint64 {
	bits := 8 * size
	mask := uint64(math.MaxUint64) >> (64 - bits)
	n &= mask
	if signed && n&(1<<(bits-1)) != 0 {
		n |= ^mask
	}
	if typ == api.I32 {
		n &= 1<<32 - 1
	}
	return n
}

// P4.3: what a store laid, each load of as many bytes brings back, cut to them; and what such a
// load had, the store lays again.
func TestThereAndBack(t *testing.T) {
	signed := []int{0x2c, 0x2e, 0x30, 0x32, 0x34}
	pairs := 0
	for _, s := range stores() {
		for _, l := range loads() {
			if l.size != s.size {
				continue
			}
			pairs++
			for _, n := range edges() {
				b, _ := Store(s.op, n)
				want := cutTo(n, l.size, l.typ, slices.Contains(signed, l.op))
				sameLoad(t, l.op, b, want)
				sameStore(t, s.op, want, b)
			}
		}
	}
	if pairs != 4*2+4*2+3*2+1 {
		t.Error(pairs)
	}
}

// P4.3: stores and loads of other widths don't fit.
func TestOtherWidths(t *testing.T) {
	for _, s := range stores() {
		b, _ := Store(s.op, math.MaxUint64)
		for _, l := range loads() {
			if l.size != s.size {
				noLoad(t, l.op, b)
			}
		}
	}
}

// P4.2, rule 3: a load leaves its bytes and the room behind them as they were; what a store
// answers is nobody else's.
func TestMemoryIsApart(t *testing.T) {
	for _, l := range loads() {
		b := []byte{0x81, 0x82, 0x83, 0x84, 0x85, 0x86, 0x87, 0x88, 0x89, 0x8a}
		before := slices.Clone(b)
		Load(l.op, b[:l.size])
		Load(l.op, b[:l.size-1])
		if !bytes.Equal(b, before) {
			t.Errorf("Load(%x) changed its bytes: % x", l.op, b)
		}
	}
	for _, s := range stores() {
		b, _ := Store(s.op, math.MaxUint64)
		clear(b[:cap(b)])
		sameStore(t, s.op, math.MaxUint64, laid(math.MaxUint64, s.size))
		sameStore(t, s.op, 0x8182838485868788, laid(0x8182838485868788, s.size))
		if !bytes.Equal(b, make([]byte, s.size)) {
			t.Errorf("Store(%x) shares its answers: % x", s.op, b)
		}
	}
}

func FuzzAgainstModel(f *testing.F) {
	f.Add(0x2c, []byte{0x80}, uint64(0x12345))
	f.Add(0x3b, []byte{0x45, 0x23}, uint64(0))
	f.Add(-1, []byte{}, uint64(math.MaxUint64))
	f.Fuzz(func(t *testing.T, op int, b []byte, n uint64) {
		if !has(loads(), op) {
			noLoad(t, op, b)
		}
		if !has(stores(), op) {
			noStore(t, op, n)
		}
		for _, l := range loads() {
			if len(b) != l.size {
				noLoad(t, l.op, b)
				continue
			}
			sameLoad(t, l.op, b, l.number(b))
		}
		for _, s := range stores() {
			sameStore(t, s.op, n, laid(n, s.size))
		}
	})
}

package num

import (
	"math"
	"math/big"
	"slices"
	"testing"

	"trammel/api"
)

const (
	all32   = 1<<32 - 1
	all64   = math.MaxUint64
	high32  = all64 - all32
	least32 = 1 << 31
	least64 = 1 << 63
	great32 = 1<<31 - 1
	great64 = 1<<63 - 1
)

// operation is what the chapter says of a code. Its answer is worked out with numbers that have
// no end, and shares no step with the package.
type operation struct {
	code   int
	takes  []int
	gives  int
	answer func(a, b uint64) (uint64, int)
}

func power(w int) *big.Int { return new(big.Int).Lsh(big.NewInt(1), uint(w)) }

// plain and sign are the number that the lowest w bits say.
func plain(a uint64, w int) *big.Int {
	return new(big.Int).Mod(new(big.Int).SetUint64(a), power(w))
}

func sign(a uint64, w int) *big.Int {
	n := plain(a, w)
	if n.Bit(w-1) == 1 {
		n.Sub(n, power(w))
	}
	return n
}

// onto is a number without end on w bits. Mod is never below 0.
func onto(n *big.Int, w int) uint64 { return new(big.Int).Mod(n, power(w)).Uint64() }

func one(holds bool) uint64 {
	if holds {
		return 1
	}
	return 0
}

func width(t int) int {
	if t == api.I64 {
		return 64
	}
	return 32
}

// ofOne is every operation of one number.
func ofOne() []operation {
	var ops []operation
	put := func(code, in, out int, f func(a uint64, w int) uint64) {
		ops = append(ops, operation{code, []int{in}, out, func(a, _ uint64) (uint64, int) {
			return f(a, width(in)), api.TrapNone
		}})
	}
	both := func(narrow, wide int, f func(a uint64, w int) uint64) {
		put(narrow, api.I32, api.I32, f)
		put(wide, api.I64, api.I64, f)
	}
	zero := func(a uint64, w int) uint64 { return one(plain(a, w).Sign() == 0) }
	put(0x45, api.I32, api.I32, zero)
	put(0x50, api.I64, api.I32, zero)
	both(0x67, 0x79, func(a uint64, w int) uint64 {
		n, k := plain(a, w), 0
		for k < w && n.Bit(w-1-k) == 0 {
			k++
		}
		return uint64(k)
	})
	both(0x68, 0x7a, func(a uint64, w int) uint64 {
		n, k := plain(a, w), 0
		for k < w && n.Bit(k) == 0 {
			k++
		}
		return uint64(k)
	})
	both(0x69, 0x7b, func(a uint64, w int) uint64 {
		n, k := plain(a, w), uint64(0)
		for i := range w {
			k += uint64(n.Bit(i))
		}
		return k
	})
	put(0xa7, api.I64, api.I32, func(a uint64, _ int) uint64 { return onto(plain(a, 32), 32) })
	put(0xac, api.I32, api.I64, func(a uint64, _ int) uint64 { return onto(sign(a, 32), 64) })
	put(0xad, api.I32, api.I64, func(a uint64, _ int) uint64 { return onto(plain(a, 32), 64) })
	put(0xc0, api.I32, api.I32, func(a uint64, _ int) uint64 { return onto(sign(a, 8), 32) })
	put(0xc1, api.I32, api.I32, func(a uint64, _ int) uint64 { return onto(sign(a, 16), 32) })
	put(0xc2, api.I64, api.I64, func(a uint64, _ int) uint64 { return onto(sign(a, 8), 64) })
	put(0xc3, api.I64, api.I64, func(a uint64, _ int) uint64 { return onto(sign(a, 16), 64) })
	put(0xc4, api.I64, api.I64, func(a uint64, _ int) uint64 { return onto(sign(a, 32), 64) })
	return ops
}

// comparisons tell of each code, in the order of the codes, which orders of a and b it holds for.
func comparisons() []operation {
	var ops []operation
	for _, t := range []int{api.I32, api.I64} {
		w := width(t)
		code := map[int]int{32: 0x46, 64: 0x51}[w]
		put := func(signed bool, orders ...int) {
			ops = append(ops, operation{code, []int{t, t}, api.I32, func(a, b uint64) (uint64, int) {
				order := plain(a, w).Cmp(plain(b, w))
				if signed {
					order = sign(a, w).Cmp(sign(b, w))
				}
				return one(slices.Contains(orders, order)), api.TrapNone
			}})
			code++
		}
		put(false, 0)
		put(false, -1, 1)
		for _, orders := range [][]int{{-1}, {1}, {-1, 0}, {1, 0}} {
			put(true, orders...)
			put(false, orders...)
		}
	}
	return ops
}

type reading func(a uint64, w int) *big.Int

// quotients and what is left, with their traps. Quo and Rem go towards 0.
func quotient(read reading, left bool, a, b uint64, w int) (uint64, int) {
	x, y := read(a, w), read(b, w)
	if y.Sign() == 0 {
		return 0, api.TrapZero
	}
	if left {
		return onto(new(big.Int).Rem(x, y), w), api.TrapNone
	}
	q := new(big.Int).Quo(x, y)
	if y.Sign() < 0 && q.Cmp(power(w-1)) == 0 {
		return 0, api.TrapOver
	}
	return onto(q, w), api.TrapNone
}

// turned puts each bit by places further to the left, and round.
func turned(a uint64, by, w int) uint64 {
	from, to := plain(a, w), new(big.Int)
	for i := range w {
		to.SetBit(to, ((i+by)%w+w)%w, from.Bit(i))
	}
	return to.Uint64()
}

func arithmetic() []operation {
	var ops []operation
	for _, t := range []int{api.I32, api.I64} {
		w := width(t)
		code := map[int]int{32: 0x6a, 64: 0x7c}[w]
		trapping := func(f func(a, b uint64) (uint64, int)) {
			ops = append(ops, operation{code, []int{t, t}, t, f})
			code++
		}
		put := func(f func(n *big.Int, a, b uint64)) {
			trapping(func(a, b uint64) (uint64, int) {
				n := new(big.Int)
				f(n, a, b)
				return onto(n, w), api.TrapNone
			})
		}
		by := func(b uint64) uint { return uint(b % uint64(w)) }
		put(func(n *big.Int, a, b uint64) { n.Add(plain(a, w), plain(b, w)) })
		put(func(n *big.Int, a, b uint64) { n.Sub(plain(a, w), plain(b, w)) })
		put(func(n *big.Int, a, b uint64) { n.Mul(plain(a, w), plain(b, w)) })
		for _, left := range []bool{false, true} {
			for _, read := range []reading{sign, plain} {
				trapping(func(a, b uint64) (uint64, int) { return quotient(read, left, a, b, w) })
			}
		}
		put(func(n *big.Int, a, b uint64) { n.And(plain(a, w), plain(b, w)) })
		put(func(n *big.Int, a, b uint64) { n.Or(plain(a, w), plain(b, w)) })
		put(func(n *big.Int, a, b uint64) { n.Xor(plain(a, w), plain(b, w)) })
		put(func(n *big.Int, a, b uint64) { n.Lsh(plain(a, w), by(b)) })
		put(func(n *big.Int, a, b uint64) { n.Rsh(sign(a, w), by(b)) })
		put(func(n *big.Int, a, b uint64) { n.Rsh(plain(a, w), by(b)) })
		put(func(n *big.Int, a, b uint64) { n.SetUint64(turned(a, int(by(b)), w)) })
		put(func(n *big.Int, a, b uint64) { n.SetUint64(turned(a, -int(by(b)), w)) })
	}
	return ops
}

// ofTwo is every operation of two numbers.
func ofTwo() []operation { return append(comparisons(), arithmetic()...) }

// edges are the numbers at which something turns: around each power of two, on 32 and on 64
// bits, signed and unsigned; small ones, for moves; and bits above the lowest 32.
func edges() []uint64 {
	var ns []uint64
	for n := range uint64(5) {
		ns = append(ns, n, -n)
	}
	for _, k := range []int{5, 6, 7, 8, 15, 16, 24, 30, 31, 32, 33, 47, 62, 63} {
		p := uint64(1) << k
		ns = append(ns, p-1, p, p+1, -p, -p-1, -p+1)
	}
	for _, n := range []uint64{7, 0x55555555, 0x12345678, 0xfedcba98, all32, least32, great32, 0xfffffff9, 31, 32, 33} {
		ns = append(ns, n, n<<32, n<<32|0xdeadbeef, 0xdeadbeef<<32|n, high32|n)
	}
	slices.Sort(ns)
	return slices.Compact(ns)
}

func sameUn(t *testing.T, op int, a, want uint64) {
	t.Helper()
	if n, ok := Un(op, a); n != want || !ok {
		t.Errorf("Un(%x, %x) = %x, %t; want %x", op, a, n, ok, want)
	}
}

func sameBin(t *testing.T, op int, a, b, want uint64, wantTrap int) {
	t.Helper()
	if n, trap, ok := Bin(op, a, b); n != want || trap != wantTrap || !ok {
		t.Errorf("Bin(%x, %x, %x) = %x, %d, %t; want %x, %d", op, a, b, n, trap, ok, want, wantTrap)
	}
}

// P3.1: operations of one number, written out, the edges that the chapter names among them.
func TestUnWritten(t *testing.T) {
	for _, c := range []struct {
		op   int
		a, n uint64
	}{
		{0x45, 0, 1}, {0x45, 1, 0}, {0x45, all32, 0}, {0x45, least32, 0}, {0x45, 1 << 32, 1}, {0x45, high32, 1},
		{0x50, 0, 1}, {0x50, 1, 0}, {0x50, all64, 0}, {0x50, least64, 0}, {0x50, 1 << 32, 0},
		{0x67, 0, 32}, {0x67, 1, 31}, {0x67, great32, 1}, {0x67, least32, 0}, {0x67, all32, 0}, {0x67, 1 << 32, 32}, {0x67, 1<<40 | 0x100, 23},
		{0x79, 0, 64}, {0x79, 1, 63}, {0x79, great64, 1}, {0x79, least64, 0}, {0x79, all64, 0}, {0x79, 1 << 32, 31}, {0x79, all32, 32},
		{0x68, 0, 32}, {0x68, 1, 0}, {0x68, least32, 31}, {0x68, all32, 0}, {0x68, 1 << 32, 32}, {0x68, 0x100, 8},
		{0x7a, 0, 64}, {0x7a, 1, 0}, {0x7a, least64, 63}, {0x7a, all64, 0}, {0x7a, 1 << 32, 32}, {0x7a, 0x100, 8},
		{0x69, 0, 0}, {0x69, 0x101, 2}, {0x69, all32, 32}, {0x69, great32, 31}, {0x69, all64, 32}, {0x69, high32, 0},
		{0x7b, 0, 0}, {0x7b, 0x101, 2}, {0x7b, all32, 32}, {0x7b, great64, 63}, {0x7b, all64, 64}, {0x7b, high32, 32},
		{0xa7, 0, 0}, {0xa7, 5<<32 | 7, 7}, {0xa7, all64, all32}, {0xa7, least64, 0}, {0xa7, least32, least32},
		{0xac, 0, 0}, {0xac, great32, great32}, {0xac, least32, 0xffffffff80000000}, {0xac, all32, all64}, {0xac, 5<<32 | 7, 7}, {0xac, high32, 0},
		{0xad, 0, 0}, {0xad, great32, great32}, {0xad, least32, least32}, {0xad, all32, all32}, {0xad, all64, all32}, {0xad, high32, 0},
		{0xc0, 0, 0}, {0xc0, 0x7f, 0x7f}, {0xc0, 0x80, 0xffffff80}, {0xc0, 0xff, all32}, {0xc0, 0x17f, 0x7f}, {0xc0, 0xffffffffffffff00, 0},
		{0xc1, 0, 0}, {0xc1, 0x7fff, 0x7fff}, {0xc1, 0x8000, 0xffff8000}, {0xc1, 0xffff, all32}, {0xc1, 0x17fff, 0x7fff}, {0xc1, 0x80, 0x80},
		{0xc2, 0, 0}, {0xc2, 0x7f, 0x7f}, {0xc2, 0x80, 0xffffffffffffff80}, {0xc2, 0xff, all64}, {0xc2, 0x17f, 0x7f}, {0xc2, 0xffffffffffffff00, 0},
		{0xc3, 0, 0}, {0xc3, 0x7fff, 0x7fff}, {0xc3, 0x8000, 0xffffffffffff8000}, {0xc3, 0xffff, all64}, {0xc3, 0x17fff, 0x7fff}, {0xc3, 0x80, 0x80},
		{0xc4, 0, 0}, {0xc4, great32, great32}, {0xc4, least32, 0xffffffff80000000}, {0xc4, all32, all64}, {0xc4, 1<<32 | great32, great32}, {0xc4, 0x8000, 0x8000},
	} {
		sameUn(t, c.op, c.a, c.n)
	}
}

type pair struct {
	op   int
	a, b uint64
	n    uint64
}

func samePairs(t *testing.T, pairs []pair) {
	t.Helper()
	for _, c := range pairs {
		sameBin(t, c.op, c.a, c.b, c.n, api.TrapNone)
	}
}

// P3.1: what two numbers are to each other: -1 and 1, the least and the greatest, the same
// twice, and numbers that differ above the lowest 32 bits alone.
func TestCompareWritten(t *testing.T) {
	orders := [][2]uint64{{1, 2}, {2, 1}, {5, 5}, {all32, 1}, {least32, great32}, {1 << 32, 0}}
	for i, want := range [][]uint64{
		{0, 0, 1, 0, 0, 1}, {1, 1, 0, 1, 1, 0},
		{1, 0, 0, 1, 1, 0}, {1, 0, 0, 0, 0, 0},
		{0, 1, 0, 0, 0, 0}, {0, 1, 0, 1, 1, 0},
		{1, 0, 1, 1, 1, 1}, {1, 0, 1, 0, 0, 1},
		{0, 1, 1, 0, 0, 1}, {0, 1, 1, 1, 1, 1},
	} {
		for k, o := range orders {
			sameBin(t, 0x46+i, o[0], o[1], want[k], api.TrapNone)
		}
	}
	orders = [][2]uint64{{1, 2}, {2, 1}, {5, 5}, {all64, 1}, {least64, great64}, {1 << 32, 0}, {all32, 1}}
	for i, want := range [][]uint64{
		{0, 0, 1, 0, 0, 0, 0}, {1, 1, 0, 1, 1, 1, 1},
		{1, 0, 0, 1, 1, 0, 0}, {1, 0, 0, 0, 0, 0, 0},
		{0, 1, 0, 0, 0, 1, 1}, {0, 1, 0, 1, 1, 1, 1},
		{1, 0, 1, 1, 1, 0, 0}, {1, 0, 1, 0, 0, 0, 0},
		{0, 1, 1, 0, 0, 1, 1}, {0, 1, 1, 1, 1, 1, 1},
	} {
		for k, o := range orders {
			sameBin(t, 0x51+i, o[0], o[1], want[k], api.TrapNone)
		}
	}
}

// P3.1: sums, differences, products and bits, written out.
func TestArithmeticWritten(t *testing.T) {
	samePairs(t, []pair{
		{0x6a, 2, 3, 5}, {0x6a, all32, 1, 0}, {0x6a, all32, all32, all32 - 1}, {0x6a, great32, 1, least32}, {0x6a, 7<<32 | 1, 9<<32 | 1, 2},
		{0x7c, 2, 3, 5}, {0x7c, all64, 1, 0}, {0x7c, all64, all64, all64 - 1}, {0x7c, great64, 1, least64}, {0x7c, all32, 1, 1 << 32},
		{0x6b, 5, 3, 2}, {0x6b, 0, 1, all32}, {0x6b, least32, 1, great32}, {0x6b, 0, least32, least32}, {0x6b, 7 << 32, 9<<32 | 1, all32},
		{0x7d, 5, 3, 2}, {0x7d, 0, 1, all64}, {0x7d, least64, 1, great64}, {0x7d, 0, least64, least64}, {0x7d, 1 << 32, 1, all32},
		{0x6c, 6, 7, 42}, {0x6c, all32, all32, 1}, {0x6c, 1 << 16, 1 << 16, 0}, {0x6c, least32, all32, least32}, {0x6c, 3<<32 | 6, 5<<32 | 7, 42},
		{0x7e, 6, 7, 42}, {0x7e, all64, all64, 1}, {0x7e, 1 << 32, 1 << 32, 0}, {0x7e, least64, all64, least64}, {0x7e, 1 << 16, 1 << 16, 1 << 32},
		{0x71, 0xc, 0xa, 8}, {0x71, all64, all64, all32}, {0x83, 0xc, 0xa, 8}, {0x83, all64, all64, all64},
		{0x72, 0xc, 0xa, 0xe}, {0x72, 1<<32 | 1, 1<<40 | 2, 3}, {0x84, 0xc, 0xa, 0xe}, {0x84, 1 << 32, 1 << 40, 0x10100000000},
		{0x73, 0xc, 0xa, 6}, {0x73, all64, 1, all32 - 1}, {0x85, 0xc, 0xa, 6}, {0x85, all64, 1, all64 - 1},
	})
}

// P3.1: moves and turns by 0, 1, just below w, w, more than w, and by bits above the lowest 32.
func TestMovesWritten(t *testing.T) {
	samePairs(t, []pair{
		{0x74, 3, 0, 3}, {0x74, 3, 1, 6}, {0x74, 3, 31, least32}, {0x74, 3, 32, 3}, {0x74, 3, 33, 6}, {0x74, 3, 64, 3}, {0x74, 3, all32, least32}, {0x74, 3, 1 << 32, 3},
		{0x86, 3, 0, 3}, {0x86, 3, 1, 6}, {0x86, 3, 63, least64}, {0x86, 3, 32, 3 << 32}, {0x86, 3, 64, 3}, {0x86, 3, 65, 6}, {0x86, 3, all64, least64}, {0x86, 3, 1 << 32, 3},
		{0x75, least32, 0, least32}, {0x75, least32, 1, 0xc0000000}, {0x75, least32, 31, all32}, {0x75, least32, 32, least32}, {0x75, least32, 33, 0xc0000000}, {0x75, great32, 30, 1}, {0x75, 1<<32 | 4, 1, 2}, {0x75, all32, all32, all32},
		{0x87, least64, 0, least64}, {0x87, least64, 1, 0xc000000000000000}, {0x87, least64, 63, all64}, {0x87, least64, 64, least64}, {0x87, least64, 65, 0xc000000000000000}, {0x87, great64, 62, 1}, {0x87, least32, 31, 1}, {0x87, all64, all64, all64},
		{0x76, least32, 0, least32}, {0x76, least32, 1, 0x40000000}, {0x76, least32, 31, 1}, {0x76, least32, 32, least32}, {0x76, least32, 33, 0x40000000}, {0x76, 1<<32 | 4, 1, 2}, {0x76, all32, all32, 1},
		{0x88, least64, 0, least64}, {0x88, least64, 1, 0x4000000000000000}, {0x88, least64, 63, 1}, {0x88, least64, 64, least64}, {0x88, least64, 65, 0x4000000000000000}, {0x88, 1 << 32, 32, 1}, {0x88, all64, all64, 1},
		{0x77, 0x80000001, 0, 0x80000001}, {0x77, 0x80000001, 1, 3}, {0x77, 0x80000001, 31, 0xc0000000}, {0x77, 0x80000001, 32, 0x80000001}, {0x77, 0x80000001, 33, 3}, {0x77, 1<<32 | 1, 4, 16}, {0x77, 6, 7<<32 | 1, 12},
		{0x89, least64 | 1, 0, least64 | 1}, {0x89, least64 | 1, 1, 3}, {0x89, least64 | 1, 63, 0xc000000000000000}, {0x89, least64 | 1, 64, least64 | 1}, {0x89, least64 | 1, 65, 3}, {0x89, 1, 32, 1 << 32},
		{0x78, 1, 0, 1}, {0x78, 1, 1, least32}, {0x78, 1, 31, 2}, {0x78, 1, 32, 1}, {0x78, 1, 33, least32}, {0x78, 1<<32 | 16, 4, 1}, {0x78, 6, 7<<32 | 1, 3},
		{0x8a, 1, 0, 1}, {0x8a, 1, 1, least64}, {0x8a, 1, 63, 2}, {0x8a, 1, 64, 1}, {0x8a, 1, 65, least64}, {0x8a, 1 << 32, 32, 1},
	})
}

// P3.1: quotients and what is left, towards 0.
func TestQuotientsWritten(t *testing.T) {
	samePairs(t, []pair{
		{0x6d, 7, 2, 3}, {0x6d, 0xfffffff9, 2, 0xfffffffd}, {0x6d, 7, 0xfffffffe, 0xfffffffd}, {0x6d, 0xfffffff9, 0xfffffffe, 3}, {0x6d, least32, 1, least32}, {0x6d, least32, 2, 0xc0000000}, {0x6d, great32, all32, least32 | 1}, {0x6d, 0, all32, 0}, {0x6d, least32, least32, 1}, {0x6d, 9<<32 | 7, 5<<32 | 2, 3},
		{0x7f, 7, 2, 3}, {0x7f, all64 - 6, 2, all64 - 2}, {0x7f, 7, all64 - 1, all64 - 2}, {0x7f, all64 - 6, all64 - 1, 3}, {0x7f, least64, 1, least64}, {0x7f, least64, 2, 0xc000000000000000}, {0x7f, great64, all64, least64 | 1}, {0x7f, 0, all64, 0}, {0x7f, least32, all32, 0}, {0x7f, least64, all32, 0xffffffff80000000},
		{0x6e, 7, 2, 3}, {0x6e, 0xfffffff9, 2, 0x7ffffffc}, {0x6e, least32, all32, 0}, {0x6e, all32, all32, 1}, {0x6e, all32, 1, all32}, {0x6e, 1, all32, 0}, {0x6e, 9<<32 | 7, 5<<32 | 2, 3},
		{0x80, 7, 2, 3}, {0x80, all64 - 6, 2, great64 - 3}, {0x80, least64, all64, 0}, {0x80, all64, all64, 1}, {0x80, all64, 1, all64}, {0x80, 1, all64, 0}, {0x80, 1 << 40, 1 << 32, 256},
		{0x6f, 7, 2, 1}, {0x6f, 0xfffffff9, 2, all32}, {0x6f, 7, 0xfffffffe, 1}, {0x6f, 0xfffffff9, 0xfffffffe, all32}, {0x6f, least32, all32, 0}, {0x6f, least32, great32, all32}, {0x6f, least32, 1, 0}, {0x6f, 9<<32 | 7, 5<<32 | 2, 1},
		{0x81, 7, 2, 1}, {0x81, all64 - 6, 2, all64}, {0x81, 7, all64 - 1, 1}, {0x81, all64 - 6, all64 - 1, all64}, {0x81, least64, all64, 0}, {0x81, least64, great64, all64}, {0x81, least64, 1, 0},
		{0x70, 7, 2, 1}, {0x70, 0xfffffff9, 2, 1}, {0x70, least32, all32, least32}, {0x70, all32, least32, great32}, {0x70, all32, all32, 0}, {0x70, 9<<32 | 7, 5<<32 | 2, 1},
		{0x82, 7, 2, 1}, {0x82, all64 - 6, 2, 1}, {0x82, least64, all64, least64}, {0x82, all64, least64, great64}, {0x82, all64, all64, 0}, {0x82, 1<<32 + 3, 1 << 32, 3},
	})
}

// P3.1: the traps: a number by 0, whatever it is; the least number by -1. What is on 32 bits 0,
// or the least number, is it with any bits above.
func TestTraps(t *testing.T) {
	for _, a := range edges() {
		for i := range 4 {
			sameBin(t, 0x6d+i, a, 0, 0, api.TrapZero)
			sameBin(t, 0x6d+i, a, 1<<32, 0, api.TrapZero)
			sameBin(t, 0x6d+i, a, high32, 0, api.TrapZero)
			sameBin(t, 0x7f+i, a, 0, 0, api.TrapZero)
		}
	}
	for _, high := range []uint64{0, 1 << 32, 1 << 63, high32} {
		sameBin(t, 0x6d, high|least32, all32, 0, api.TrapOver)
		sameBin(t, 0x6d, least32, high|all32, 0, api.TrapOver)
	}
	sameBin(t, 0x7f, least64, all64, 0, api.TrapOver)
	sameBin(t, 0x7f, 0xffffffff80000000, all64, least32, api.TrapNone)
	sameBin(t, 0x7f, least32, all64, 0xffffffff80000000, api.TrapNone)
}

// P3.1: every operation at every edge and pair of edges, as the chapter's words work it out; the
// answer has no bits above its type's.
func TestAgainstModel(t *testing.T) {
	ns := edges()
	for _, op := range ofOne() {
		for _, a := range ns {
			want, _ := op.answer(a, 0)
			sameUn(t, op.code, a, want)
		}
	}
	for _, op := range ofTwo() {
		for _, a := range ns {
			for _, b := range ns {
				againstModel(t, op, a, b)
			}
		}
		if t.Failed() {
			t.FailNow()
		}
	}
}

func againstModel(t *testing.T, op operation, a, b uint64) {
	t.Helper()
	want, trap := op.answer(a, b)
	sameBin(t, op.code, a, b, want, trap)
	if n, _, _ := Bin(op.code, a, b); op.gives == api.I32 && n > all32 {
		t.Errorf("Bin(%x, %x, %x) = %x", op.code, a, b, n)
	}
}

// P3.1: an operation on 32 bits does not look above them.
func TestHighBitsDoNotCount(t *testing.T) {
	ns := edges()
	for _, high := range []uint64{1 << 32, 1 << 63, 0xdeadbeef << 32, high32} {
		for _, op := range ofOne() {
			for _, a := range ns {
				if n, _ := Un(op.code, a&all32); op.takes[0] == api.I32 {
					sameUn(t, op.code, a&all32|high, n)
				}
			}
		}
		for _, op := range ofTwo() {
			for _, a := range ns {
				if n, trap, _ := Bin(op.code, a&all32, 7); op.takes[0] == api.I32 {
					sameBin(t, op.code, a&all32|high, 7|high, n, trap)
					n, trap, _ = Bin(op.code, 7, a&all32)
					sameBin(t, op.code, 7|high, a&all32|high, n, trap)
				}
			}
		}
	}
}

// others is codes that are no operation, or might be taken for one: all that are near, those of
// other instructions, and operations with more bits above them or with the sign changed.
func others() []int {
	codes := []int{math.MinInt, math.MinInt + 1, math.MaxInt - 1, math.MaxInt}
	for code := -0x1100; code <= 0x1100; code++ {
		codes = append(codes, code)
	}
	for code := range 0x100 {
		for _, k := range []int{8, 16, 31, 32, 63} {
			codes = append(codes, code|1<<k, code-1<<k, code|-1<<k)
		}
		codes = append(codes, ^code, -code)
	}
	return codes
}

func has(ops []operation, code int) bool {
	return slices.ContainsFunc(ops, func(op operation) bool { return op.code == code })
}

// P3.1, P3.2: beside the false that tells that there is none, everything is zero; and there is
// one of each code that the chapter lists, and of no other.
func TestNoOperation(t *testing.T) {
	singles, pairs := ofOne(), ofTwo()
	if len(singles) != 16 || len(pairs) != 50 {
		t.Fatal(len(singles), len(pairs))
	}
	for _, code := range others() {
		for _, a := range []uint64{0, 1, 5, least32, all32, least64, all64} {
			if n, ok := Un(code, a); ok != has(singles, code) || !ok && n != 0 {
				t.Fatalf("Un(%x, %x) = %x, %t", code, a, n, ok)
			}
			for _, b := range []uint64{0, 1, all64} {
				if n, trap, ok := Bin(code, a, b); ok != has(pairs, code) || !ok && (n != 0 || trap != 0) {
					t.Fatalf("Bin(%x, %x, %x) = %x, %d, %t", code, a, b, n, trap, ok)
				}
			}
		}
		in, out, ok := Types(code)
		if ok != (has(singles, code) || has(pairs, code)) || !ok && (len(in) != 0 || out != 0) {
			t.Fatalf("Types(%x) = %x, %x, %t", code, in, out, ok)
		}
	}
}

// P3.2: the types of every operation, by ranges of codes, written out.
func TestTypesWritten(t *testing.T) {
	one32, one64 := []int{api.I32}, []int{api.I64}
	two32, two64 := []int{api.I32, api.I32}, []int{api.I64, api.I64}
	count := 0
	for _, c := range []struct {
		first, last int
		in          []int
		out         int
	}{
		{0x45, 0x45, one32, api.I32}, {0x46, 0x4f, two32, api.I32},
		{0x50, 0x50, one64, api.I32}, {0x51, 0x5a, two64, api.I32},
		{0x67, 0x69, one32, api.I32}, {0x6a, 0x78, two32, api.I32},
		{0x79, 0x7b, one64, api.I64}, {0x7c, 0x8a, two64, api.I64},
		{0xa7, 0xa7, one64, api.I32}, {0xac, 0xad, one32, api.I64},
		{0xc0, 0xc1, one32, api.I32}, {0xc2, 0xc4, one64, api.I64},
	} {
		for code := c.first; code <= c.last; code++ {
			count++
			if in, out, ok := Types(code); !slices.Equal(in, c.in) || out != c.out || !ok {
				t.Errorf("Types(%x) = %x, %x, %t; want %x, %x", code, in, out, ok, c.in, c.out)
			}
		}
	}
	if count != 66 {
		t.Error(count)
	}
}

// P3.2: each operation has as many types as it takes numbers, and no answer is shared.
func TestTypesAreNew(t *testing.T) {
	for _, op := range append(ofOne(), ofTwo()...) {
		in, out, ok := Types(op.code)
		if !slices.Equal(in, op.takes) || out != op.gives || !ok {
			t.Errorf("Types(%x) = %x, %x, %t", op.code, in, out, ok)
		}
		in = in[:cap(in)]
		clear(in)
		if in, _, _ := Types(op.code); !slices.Equal(in, op.takes) {
			t.Errorf("Types(%x) is shared: %x", op.code, in)
		}
	}
}

func FuzzAgainstModel(f *testing.F) {
	singles, pairs := ofOne(), ofTwo()
	f.Add(0x6d, uint64(least32), uint64(all32))
	f.Add(0x78, uint64(1), uint64(33))
	f.Add(-1, uint64(0), uint64(0))
	f.Fuzz(func(t *testing.T, code int, a, b uint64) {
		if n, ok := Un(code, a); ok != has(singles, code) || !ok && n != 0 {
			t.Errorf("Un(%x, %x) = %x, %t", code, a, n, ok)
		}
		if n, trap, ok := Bin(code, a, b); ok != has(pairs, code) || !ok && (n != 0 || trap != 0) {
			t.Errorf("Bin(%x, %x, %x) = %x, %d, %t", code, a, b, n, trap, ok)
		}
		for _, op := range singles {
			want, _ := op.answer(a, 0)
			sameUn(t, op.code, a, want)
		}
		for _, op := range pairs {
			againstModel(t, op, a, b)
		}
	})
}

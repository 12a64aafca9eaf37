package instr

import (
	"bytes"
	"math"
	"slices"
	"testing"

	"trammel/api"
)

func wantOne(t *testing.T, b []byte, x api.Instr, size int, e api.Errno) {
	t.Helper()
	gotX, gotSize, gotE := One(b)
	if !same(gotX, x) || gotSize != size || gotE != e {
		t.Errorf("One(% x) = %x, %d, %d; want %x, %d, %d", b, gotX, gotSize, gotE, x, size, e)
	}
}

func wantBody(t *testing.T, b []byte, l []api.Instr, size int, e api.Errno) {
	t.Helper()
	gotL, gotSize, gotE := Body(b)
	if !sameList(gotL, l) || gotSize != size || gotE != e {
		t.Errorf("Body(% .60x) = %.60v (%d), %d, %d; want %d instructions, %d, %d", b, gotL, len(gotL), gotSize, gotE, len(l), size, e)
	}
}

// againstModel also holds: what was read is formed and closed.
func againstModel(t *testing.T, b []byte) {
	t.Helper()
	x, size, e := modelOne(b)
	wantOne(t, b, x, size, e)
	if e == api.OK && !Formed(x) {
		t.Errorf("One(% x) isn't formed", b)
	}
	l, size, e := modelBody(b)
	wantBody(t, b, l, size, e)
	if e == api.OK && !Closed(l) {
		t.Errorf("Body(% x) isn't closed", b)
	}
}

func repeat(n int, b ...byte) []byte { return bytes.Repeat(b, n) }

func join(parts ...[]byte) []byte { return slices.Concat(parts...) }

// long is a number in so many bytes more than it needs (and room for them).
func long(n uint64, more int) []byte {
	b := putUnsigned(nil, n)
	if more > 0 {
		b[len(b)-1] |= 0x80
		b = join(b, repeat(more-1, 0x80), []byte{0})
	}
	return b
}

// P6.1: instructions written out, of each form, with numbers at the edges, and longer forms.
func TestOne(t *testing.T) {
	most := []byte{0xff, 0xff, 0xff, 0xff, 0x0f}
	for _, c := range []struct {
		b    []byte
		x    api.Instr
		size int
	}{
		{[]byte{0x41, 0x7f}, api.Instr{Op: 0x41, K: -1}, 2},
		{[]byte{0x00}, api.Instr{}, 1}, {[]byte{0x01, 0xff}, api.Instr{Op: 1}, 1}, {[]byte{0x05}, api.Instr{Op: 5}, 1}, {[]byte{0x0b, 0x0b}, api.Instr{Op: 0xb}, 1},
		{[]byte{0x0f}, api.Instr{Op: 0xf}, 1}, {[]byte{0x1a}, api.Instr{Op: 0x1a}, 1}, {[]byte{0x1b, 1}, api.Instr{Op: 0x1b}, 1}, {[]byte{0x6a, 2}, api.Instr{Op: 0x6a}, 1}, {[]byte{0xc4}, api.Instr{Op: 0xc4}, 1},
		{[]byte{0x02, 0x40}, api.Instr{Op: 2, A: api.Empty}, 2}, {[]byte{0x03, 0x7f}, api.Instr{Op: 3, A: -1}, 2}, {[]byte{0x04, 0x7e, 5}, api.Instr{Op: 4, A: -2}, 2},
		{[]byte{0x02, 0}, api.Instr{Op: 2}, 2}, {[]byte{0x02, 0xc0, 0}, api.Instr{Op: 2, A: 64}, 3}, {join([]byte{0x04}, most), api.Instr{Op: 4, A: top}, 6}, {[]byte{0x03, 0x80, 0x80, 0}, api.Instr{Op: 3}, 4},
		{[]byte{0x0c, 0}, api.Instr{Op: 0xc}, 2}, {[]byte{0x0d, 0x7f, 1}, api.Instr{Op: 0xd, A: 127}, 2}, {join([]byte{0x10}, most), api.Instr{Op: 0x10, A: top}, 6}, {[]byte{0x10, 0x80, 0x80, 0x80, 0x80, 0}, api.Instr{Op: 0x10}, 6},
		{[]byte{0x20, 0x81, 0}, api.Instr{Op: 0x20, A: 1}, 3}, {[]byte{0x24, 0x80, 1}, api.Instr{Op: 0x24, A: 128}, 3},
		{[]byte{0x0e, 0, 7}, api.Instr{Op: 0xe, A: 7}, 3}, {[]byte{0x0e, 2, 1, 2, 3, 4}, api.Instr{Op: 0xe, A: 3, L: []int{1, 2}}, 5},
		{join([]byte{0x0e, 0x81, 0x80, 0}, most, []byte{0x80, 0}), api.Instr{Op: 0xe, L: []int{top}}, 11},
		{[]byte{0x11, 3, 4}, api.Instr{Op: 0x11, A: 3, B: 4}, 3}, {join([]byte{0x11}, most, most), api.Instr{Op: 0x11, A: top, B: top}, 11}, {[]byte{0x11, 0x80, 0, 0x80, 0}, api.Instr{Op: 0x11}, 5},
		{[]byte{0x28, 2, 0x90, 1}, api.Instr{Op: 0x28, A: 2, B: 144}, 4}, {join([]byte{0x3e}, most, most, []byte{1}), api.Instr{Op: 0x3e, A: top, B: top}, 11},
		{[]byte{0x3f, 0}, api.Instr{Op: 0x3f}, 2}, {[]byte{0x40, 0, 0}, api.Instr{Op: 0x40}, 2},
		{[]byte{0x41, 0}, api.Instr{Op: 0x41}, 2}, {[]byte{0x41, 0x40}, api.Instr{Op: 0x41, K: -64}, 2}, {[]byte{0x41, 0x80, 0x80, 0}, api.Instr{Op: 0x41}, 4}, {[]byte{0x41, 0xff, 0x7f}, api.Instr{Op: 0x41, K: -1}, 3},
		{[]byte{0x41, 0x80, 0x80, 0x80, 0x80, 0x78}, api.Instr{Op: 0x41, K: math.MinInt32}, 6}, {[]byte{0x41, 0xff, 0xff, 0xff, 0xff, 7}, api.Instr{Op: 0x41, K: math.MaxInt32}, 6},
		{[]byte{0x42, 0x3f}, api.Instr{Op: 0x42, K: 63}, 2}, {join([]byte{0x42}, repeat(9, 0x80), []byte{0}), api.Instr{Op: 0x42}, 11},
		{join([]byte{0x42}, repeat(9, 0x80), []byte{0x7f}), api.Instr{Op: 0x42, K: math.MinInt64}, 11}, {join([]byte{0x42}, repeat(9, 0xff), []byte{0}), api.Instr{Op: 0x42, K: math.MaxInt64}, 11},
		{[]byte{0xfc, 8, 5, 0}, api.Instr{Op: 0x108, A: 5}, 4}, {join([]byte{0xfc, 8}, most, []byte{0}), api.Instr{Op: 0x108, A: top}, 8}, {[]byte{0xfc, 9, 5}, api.Instr{Op: 0x109, A: 5}, 3}, {[]byte{0xfc, 0xa, 0, 0}, api.Instr{Op: 0x10a}, 4},
		{[]byte{0xfc, 0xb, 0}, api.Instr{Op: 0x10b}, 3}, {[]byte{0xfc, 0xc, 1, 2}, api.Instr{Op: 0x10c, A: 1, B: 2}, 4}, {[]byte{0xfc, 0xd, 1}, api.Instr{Op: 0x10d, A: 1}, 3}, {[]byte{0xfc, 0xe, 0, 1, 9}, api.Instr{Op: 0x10e, B: 1}, 4},
		{[]byte{0xfc, 0x8a, 0, 0, 0}, api.Instr{Op: 0x10a}, 5}, {[]byte{0xfc, 0x8d, 0x80, 0x80, 0x80, 0, 3}, api.Instr{Op: 0x10d, A: 3}, 7},
	} {
		wantOne(t, c.b, c.x, c.size, api.OK)
		againstModel(t, c.b)
	}
}

// P6.1: errors written out, the one that comes first byte by byte.
func TestOneErrors(t *testing.T) {
	for _, c := range []struct {
		b []byte
		e api.Errno
	}{
		{nil, api.ErrShort}, {[]byte{}, api.ErrShort}, {[]byte{0xfc}, api.ErrShort}, {[]byte{0xfc, 0x80}, api.ErrShort}, {[]byte{0xfc, 0x8a}, api.ErrShort},
		{[]byte{2}, api.ErrShort}, {[]byte{3, 0x80}, api.ErrShort}, {[]byte{4, 0xff, 0xff}, api.ErrShort}, {[]byte{0x0c}, api.ErrShort}, {[]byte{0x10, 0x80}, api.ErrShort},
		{[]byte{0x0e}, api.ErrShort}, {[]byte{0x0e, 0}, api.ErrShort}, {[]byte{0x0e, 1}, api.ErrShort}, {[]byte{0x0e, 1, 1}, api.ErrShort}, {[]byte{0x0e, 64, 1, 1}, api.ErrShort}, {[]byte{0x0e, 0xc1}, api.ErrShort},
		{[]byte{0x11}, api.ErrShort}, {[]byte{0x11, 1}, api.ErrShort}, {[]byte{0x11, 1, 0x80}, api.ErrShort}, {[]byte{0x28}, api.ErrShort}, {[]byte{0x28, 2}, api.ErrShort}, {[]byte{0x3f}, api.ErrShort}, {[]byte{0x40}, api.ErrShort},
		{[]byte{0x41}, api.ErrShort}, {[]byte{0x41, 0x80}, api.ErrShort}, {join([]byte{0x42}, repeat(9, 0x80)), api.ErrShort}, {[]byte{0xfc, 8}, api.ErrShort}, {[]byte{0xfc, 8, 1}, api.ErrShort}, {[]byte{0xfc, 9}, api.ErrShort},
		{[]byte{0xfc, 0xa}, api.ErrShort}, {[]byte{0xfc, 0xa, 0}, api.ErrShort}, {[]byte{0xfc, 0xb}, api.ErrShort}, {[]byte{0xfc, 0xc, 1}, api.ErrShort}, {[]byte{0xfc, 0xd}, api.ErrShort}, {[]byte{0xfc, 0xe, 1}, api.ErrShort},
		{[]byte{6}, api.ErrForm}, {[]byte{0xa}, api.ErrForm}, {[]byte{0x12, 1}, api.ErrForm}, {[]byte{0x27}, api.ErrForm}, {[]byte{0xc5}, api.ErrForm}, {[]byte{0xd3}, api.ErrForm}, {[]byte{0xfb}, api.ErrForm}, {[]byte{0xfe}, api.ErrForm}, {[]byte{0xff}, api.ErrForm},
		{[]byte{0xfc, 0x12}, api.ErrForm}, {[]byte{0xfc, 0x7f, 0}, api.ErrForm}, {[]byte{0xfc, 0x80, 2}, api.ErrForm}, {[]byte{0xfc, 0xff, 0xff, 0xff, 0xff, 0x0f}, api.ErrForm}, {[]byte{0xfc, 0xff, 0xff, 0xff, 0xff, 0x1f}, api.ErrForm}, {[]byte{0xfc, 0x80, 0x80, 0x80, 0x80, 0x80, 0}, api.ErrForm},
		{[]byte{0xfc, 0x80, 0x80, 0x80, 0x80, 0x10}, api.ErrForm}, {[]byte{0xfc, 0x8a, 0x80, 0x80, 0x80, 0x10, 0, 0}, api.ErrForm},
		{[]byte{0x3f, 1}, api.ErrForm}, {[]byte{0x40, 0x80, 0}, api.ErrForm}, {[]byte{0xfc, 8, 1, 1}, api.ErrForm}, {[]byte{0xfc, 0xa, 1}, api.ErrForm}, {[]byte{0xfc, 0xa, 0, 1}, api.ErrForm}, {[]byte{0xfc, 0xa, 0x80, 0}, api.ErrForm}, {[]byte{0xfc, 0xb, 0xff}, api.ErrForm},
		{[]byte{2, 0x41}, api.ErrForm}, {[]byte{2, 0xff, 0x7f}, api.ErrForm}, {[]byte{4, 0x80, 0x80, 0x80, 0x80, 0x10}, api.ErrForm},
		{[]byte{0x10, 0xff, 0xff, 0xff, 0xff, 0x1f}, api.ErrForm}, {[]byte{0x10, 0x80, 0x80, 0x80, 0x80, 0x80}, api.ErrForm}, {[]byte{0x11, 0, 0x80, 0x80, 0x80, 0x80, 0x10}, api.ErrForm},
		{[]byte{0x0e, 2, 1, 0x80, 0x80, 0x80, 0x80, 0x10}, api.ErrForm}, {[]byte{0x0e, 0xc1, 0x80, 0x80, 0x80, 0x10}, api.ErrForm}, {[]byte{0x0e, 1, 1, 0x80, 0x80, 0x80, 0x80, 0x10}, api.ErrForm},
		{[]byte{0x41, 0xff, 0xff, 0xff, 0xff, 0x0f}, api.ErrForm}, {[]byte{0x41, 0x80, 0x80, 0x80, 0x80, 0x70}, api.ErrForm}, {[]byte{0x41, 0x80, 0x80, 0x80, 0x80, 0x80, 0}, api.ErrForm}, {join([]byte{0x42}, repeat(9, 0x80), []byte{1}), api.ErrForm}, {join([]byte{0x42}, repeat(10, 0xff)), api.ErrForm},
		{[]byte{0x1c}, api.ErrWide}, {[]byte{0x43}, api.ErrWide}, {[]byte{0x44, 0, 0}, api.ErrWide}, {[]byte{0x2a}, api.ErrWide}, {[]byte{0x66}, api.ErrWide}, {[]byte{0xbf}, api.ErrWide}, {[]byte{0xfd}, api.ErrWide}, {[]byte{0xfd, 0xff}, api.ErrWide}, {[]byte{0xd2, 0x80}, api.ErrWide},
		{[]byte{0xfc, 0}, api.ErrWide}, {[]byte{0xfc, 7}, api.ErrWide}, {[]byte{0xfc, 0x0f}, api.ErrWide}, {[]byte{0xfc, 0x11}, api.ErrWide}, {[]byte{0xfc, 0x90, 0x80, 0}, api.ErrWide}, {[]byte{2, 0x7d}, api.ErrWide}, {[]byte{3, 0x70}, api.ErrWide}, {[]byte{4, 0x6f, 0xff}, api.ErrWide},
	} {
		wantOne(t, c.b, api.Instr{}, 0, c.e)
		againstModel(t, c.b)
	}
}

// P6.1: every code of one byte and every code behind fc, by itself and with bytes behind it.
func TestEveryCode(t *testing.T) {
	for first := range 256 {
		againstModel(t, []byte{byte(first)})
		for _, rest := range [][]byte{repeat(12, 0), repeat(12, 1), repeat(12, 0x80), repeat(12, 0xff), repeat(12, 0x40), {0, 1}, {1, 0}, {0x80, 0}, {0x7d}} {
			againstModel(t, join([]byte{byte(first)}, rest))
		}
	}
	for sub := range 1 << 15 {
		for _, more := range []int{0, 1, 2} {
			againstModel(t, join([]byte{0xfc}, long(uint64(sub), more), []byte{0, 0, 0}))
		}
	}
	for _, sub := range []uint64{1 << 28, 1<<31 - 1, 1 << 31, top - 1, top, top + 1, 1<<32 + 0xa, 1 << 40} {
		againstModel(t, join([]byte{0xfc}, putUnsigned(nil, sub), []byte{0, 0, 0}))
	}
	done := 0
	for op := range 0x120 {
		if Formed(api.Instr{Op: op}) {
			done++
		}
	}
	// 7 alone, 3 that begin blocks, 8 with A, br_table, call_indirect, 19 accesses, 66 operations, 2 of the memory's size, 2 constants, 7 behind fc.
	if want := 7 + 3 + 8 + 1 + 1 + 19 + 66 + 2 + 2 + 7; done != want {
		t.Errorf("%d codes are done, not %d", done, want)
	}
}

// P6.1: all bytes up to two, and behind each code that leads somewhere.
func TestAllShort(t *testing.T) {
	leads := [][]byte{nil, {2}, {0x0c}, {0x0e}, {0x0e, 1}, {0x0e, 0x80}, {0x11}, {0x28}, {0x3f}, {0x41}, {0x42}, {0x80}, {0xfc}, {0xfc, 8}, {0xfc, 8, 0x80}, {0xfc, 0xa}, {0xfc, 0xb}, {0xfc, 0xc}, {0xfc, 0x88}, {0xfc, 0x80, 0x80}, {4, 0x40}}
	for _, lead := range leads {
		againstModel(t, lead)
		for x := range 256 {
			againstModel(t, join(lead, []byte{byte(x)}))
			for y := range 256 {
				againstModel(t, join(lead, []byte{byte(x), byte(y)}))
			}
		}
	}
}

// P6.1: numbers of all lengths around the most bytes that they may have, with every last byte,
// in each place where a number stands.
func TestLongNumbers(t *testing.T) {
	places := [][]byte{{2}, {3}, {4}, {0x0c}, {0x20}, {0x0e}, {0x0e, 0}, {0x0e, 2}, {0x0e, 1, 5}, {0x11}, {0x11, 3}, {0x29, 3}, {0x36}, {0x41}, {0x42}, {0xfc}, {0xfc, 8}, {0xfc, 9}, {0xfc, 0xc}, {0xfc, 0xc, 1}, {0xfc, 0xe, 0x80, 0}}
	for lead := range 12 {
		for _, fill := range []byte{0x80, 0x81, 0xff, 0xd5} {
			for last := range 256 {
				n := join(repeat(lead, fill), []byte{byte(last)})
				for _, before := range places {
					againstModel(t, join(before, n))
					againstModel(t, join(before, n, []byte{0, 0, 0x0b}))
				}
			}
		}
	}
}

// P6.1: 0, 64 and 65 labels; too many told as soon as that is read.
func TestLabels(t *testing.T) {
	for _, n := range []int{0, 1, 2, 63, 64} {
		b, want := []byte{0x0e, byte(n)}, api.Instr{Op: 0xe, A: 300}
		for i := range n {
			b = putUnsigned(b, uint64(i*1000))
			want.L = append(want.L, i*1000)
		}
		b = append(b, 0xac, 2)
		wantOne(t, b, want, len(b), api.OK)
		wantOne(t, append(b, 9), want, len(b), api.OK)
		for cut := range b {
			wantOne(t, b[:cut], api.Instr{}, 0, api.ErrShort)
		}
	}
	for _, n := range []uint64{65, 66, 127, 128, 1 << 14, 1<<32 - 1} {
		for _, tail := range [][]byte{nil, {1}, {0x80}, repeat(6, 0xff), repeat(int(min(n, 200))+1, 1)} {
			wantOne(t, join([]byte{0x0e}, putUnsigned(nil, n), tail), api.Instr{}, 0, api.ErrLong)
		}
	}
	wantOne(t, []byte{0x0e, 0xc1, 0x80, 0x80, 0x80, 0}, api.Instr{}, 0, api.ErrLong)
}

// some are instructions of every code that is done, with numbers at the edges.
func some() []api.Instr {
	var all []api.Instr
	numbers := []int{0, 1, 63, 64, 127, 128, 16383, 16384, 1<<31 - 1, 1 << 31, top - 1, top}
	for _, op := range codes() {
		switch letter(op) {
		case 'b':
			for _, a := range append([]int{-64, -1, -2}, numbers...) {
				all = append(all, api.Instr{Op: op, A: a})
			}
		case 'u', 'm':
			for _, a := range numbers {
				all = append(all, api.Instr{Op: op, A: a})
			}
		case 'v':
			for i, a := range numbers {
				all = append(all, api.Instr{Op: op, A: a}, api.Instr{Op: op, B: a}, api.Instr{Op: op, A: a, B: numbers[(i*5+3)%len(numbers)]})
			}
		case 'l':
			for _, n := range []int{0, 1, 2, 12, 63, 64} {
				for i, a := range numbers {
					all = append(all, api.Instr{Op: op, A: a, L: slices.Repeat(append(numbers[i:i:i], numbers[i:]...), n+1)[:n]})
				}
			}
		case 'k', 'K':
			for _, k := range []int64{0, 1, -1, 63, 64, -64, -65, 8191, 8192, math.MinInt32, math.MaxInt32} {
				all = append(all, api.Instr{Op: op, K: k})
			}
			for _, k := range []int64{math.MinInt64, math.MaxInt64, math.MinInt32 - 1, math.MaxInt32 + 1, -1 << 62} {
				if op == 0x42 {
					all = append(all, api.Instr{Op: op, K: k})
				}
			}
		default:
			all = append(all, api.Instr{Op: op})
		}
	}
	return all
}

// P6.1: what is right, cut at each place, is too short; with any one byte changed it is what the
// model says.
func TestCutAndChanged(t *testing.T) {
	for _, x := range some() {
		b := modelPut(x)
		for cut := range b {
			wantOne(t, b[:cut], api.Instr{}, 0, api.ErrShort)
			for _, v := range []byte{0, 1, 0x0b, 0x40, 0x41, 0x7d, 0x7f, 0x80, 0xfc, 0xff} {
				changed := slices.Clone(b)
				changed[cut] = v
				againstModel(t, changed)
			}
		}
	}
	for _, b := range [][]byte{{0x0e, 2, 0x80, 1, 3, 4}, {0xfc, 8, 1, 0}, {0xfc, 0xa, 0, 0}, {0xfc, 0x8c, 0, 1, 2}, {4, 0x40, 1, 5, 1, 0xb, 0xb}, {0x41, 0xff, 0xff, 0xff, 0xff, 7}} {
		for at := range b {
			for v := range 256 {
				changed := slices.Clone(b)
				changed[at] = byte(v)
				againstModel(t, changed)
			}
		}
	}
}

// P6.2: bodies written out.
func TestBody(t *testing.T) {
	block, loop, cond, end, otherwise := api.Instr{Op: 2, A: -64}, api.Instr{Op: 3, A: -64}, api.Instr{Op: 4, A: -64}, api.Instr{Op: 0xb}, api.Instr{Op: 5}
	for _, c := range []struct {
		b    []byte
		l    []api.Instr
		size int
	}{
		{[]byte{0x0b}, []api.Instr{end}, 1}, {[]byte{0x0b, 0x0b}, []api.Instr{end}, 1}, {[]byte{0x0b, 0xff, 0x27}, []api.Instr{end}, 1}, {[]byte{0, 0x0b}, []api.Instr{{}, end}, 2},
		{[]byte{2, 0x40, 0x0b, 0x0b, 0}, []api.Instr{block, end, end}, 4}, {[]byte{3, 0x40, 2, 0x40, 0x0b, 0x0b, 0x0b, 0x43}, []api.Instr{loop, block, end, end, end}, 7},
		{[]byte{2, 0x40, 0x0b, 3, 0x40, 0x0b, 0x0b}, []api.Instr{block, end, loop, end, end}, 7},
		{[]byte{4, 0x40, 0x0b, 0x0b}, []api.Instr{cond, end, end}, 4}, {[]byte{4, 0x40, 5, 0x0b, 0x0b}, []api.Instr{cond, otherwise, end, end}, 5},
		{[]byte{4, 0x40, 2, 0x40, 0x0b, 5, 0x0b, 0x0b}, []api.Instr{cond, block, end, otherwise, end, end}, 8},
		{[]byte{4, 0x40, 4, 0x40, 5, 0x0b, 5, 0x0b, 0x0b}, []api.Instr{cond, cond, otherwise, end, otherwise, end, end}, 9},
		{[]byte{4, 0x40, 5, 4, 0x40, 5, 0x0b, 0x0b, 0x0b}, []api.Instr{cond, otherwise, cond, otherwise, end, end, end}, 9},
		{[]byte{2, 0x40, 4, 0x40, 5, 0x0b, 0x0b, 0x0b, 5}, []api.Instr{block, cond, otherwise, end, end, end}, 8},
		{[]byte{0x41, 1, 4, 0x7f, 0x41, 2, 5, 0x41, 3, 0x0b, 0x1a, 0x0b}, []api.Instr{{Op: 0x41, K: 1}, {Op: 4, A: -1}, {Op: 0x41, K: 2}, otherwise, {Op: 0x41, K: 3}, end, {Op: 0x1a}, end}, 12},
		{[]byte{0x0e, 1, 2, 0x0b, 0x0b}, []api.Instr{{Op: 0xe, A: 0xb, L: []int{2}}, end}, 5},
	} {
		wantBody(t, c.b, c.l, c.size, api.OK)
		againstModel(t, c.b)
		for cut := range c.size {
			wantBody(t, c.b[:cut], nil, 0, api.ErrShort)
		}
		if again, e := PutBody([]byte{1}, c.l); e != api.OK || !bytes.Equal(again, join([]byte{1}, c.b[:c.size])) {
			t.Errorf("PutBody of Body(% x): % x, %d", c.b, again, e)
		}
	}
}

// P6.2: errors of bodies written out: those of an instruction, and an else that may not stand there.
func TestBodyErrors(t *testing.T) {
	for _, c := range []struct {
		b []byte
		e api.Errno
	}{
		{nil, api.ErrShort}, {[]byte{1}, api.ErrShort}, {[]byte{2, 0x40, 0x0b}, api.ErrShort}, {[]byte{1, 0x41}, api.ErrShort},
		{[]byte{5}, api.ErrForm}, {[]byte{5, 0x0b}, api.ErrForm}, {[]byte{1, 5, 0x0b}, api.ErrForm}, {[]byte{5, 0x43}, api.ErrForm}, {[]byte{0x43, 5}, api.ErrWide},
		{[]byte{4, 0x40, 5, 5, 0x0b, 0x0b}, api.ErrForm}, {[]byte{4, 0x40, 5, 1, 5, 0x0b, 0x0b}, api.ErrForm}, {[]byte{2, 0x40, 5, 0x0b, 0x0b}, api.ErrForm}, {[]byte{3, 0x40, 5, 0x0b, 0x0b}, api.ErrForm},
		{[]byte{4, 0x40, 2, 0x40, 5, 0x0b, 0x0b, 0x0b}, api.ErrForm}, {[]byte{4, 0x40, 3, 0x40, 5, 0x0b, 0x0b, 0x0b}, api.ErrForm}, {[]byte{4, 0x40, 5, 2, 0x40, 0x0b, 5, 0x0b, 0x0b}, api.ErrForm}, {[]byte{4, 0x40, 0x0b, 5, 0x0b}, api.ErrForm},
		{[]byte{4, 0x40, 5, 4, 0x40, 5, 0x0b, 5, 0x0b, 0x0b}, api.ErrForm}, {[]byte{2, 0x40, 4, 0x40, 5, 0x0b, 5, 0x0b, 0x0b}, api.ErrForm},
		{[]byte{0x27, 0x0b}, api.ErrForm}, {[]byte{1, 0x3f, 1, 0x0b}, api.ErrForm}, {[]byte{1, 0x44, 0x0b}, api.ErrWide}, {[]byte{2, 0x7d, 0x0b, 0x0b}, api.ErrWide}, {[]byte{1, 0x0e, 65, 0x0b}, api.ErrLong},
	} {
		wantBody(t, c.b, nil, 0, c.e)
		againstModel(t, c.b)
	}
}

// P6.2: 64 and 65 blocks open at once, of each kind; an error of the block itself comes first.
func TestDeep(t *testing.T) {
	for _, op := range []byte{2, 3, 4} {
		for _, n := range []int{1, 63, 64} {
			b := join(repeat(n, op, 0x40), []byte{1}, repeat(n+1, 0x0b))
			l := slices.Concat(slices.Repeat([]api.Instr{{Op: int(op), A: -64}}, n), []api.Instr{{Op: 1}}, slices.Repeat([]api.Instr{{Op: 0xb}}, n+1))
			wantBody(t, append(b, 0xff), l, len(b), api.OK)
			if !Closed(l) {
				t.Errorf("%d blocks aren't closed", n)
			}
		}
		open := repeat(64, op, 0x40)
		for _, c := range []struct {
			tail []byte
			e    api.Errno
		}{
			{[]byte{op, 0x40}, api.ErrLong}, {[]byte{op, 0x40, 0xff}, api.ErrLong}, {[]byte{2, 0, 0x0b}, api.ErrLong}, {[]byte{3, 0x7f}, api.ErrLong}, {[]byte{4, 0x7e}, api.ErrLong},
			{join([]byte{op, 0x40}, repeat(66, 0x0b)), api.ErrLong}, {[]byte{op}, api.ErrShort}, {[]byte{op, 0x7d}, api.ErrWide}, {[]byte{op, 0x41}, api.ErrForm}, {nil, api.ErrShort}, {repeat(64, 0x0b), api.ErrShort},
			{[]byte{0x0b, 2, 0x40, 2, 0x40}, api.ErrLong}, {[]byte{0x0b, 2, 0x40, 0x27}, api.ErrForm},
		} {
			wantBody(t, join(open, c.tail), nil, 0, c.e)
			againstModel(t, join(open, c.tail))
		}
		again := join(open, []byte{0x0b, op, 0x40}, repeat(65, 0x0b))
		if l, size, e := Body(again); e != api.OK || size != len(again) || len(l) != 131 {
			t.Errorf("a block behind one that is closed: %d, %d, %d", len(l), size, e)
		}
		againstModel(t, join(repeat(300, op, 0x40, 0x0b), []byte{0x0b}))
		if _, _, e := Body(join(repeat(300, op, 0x40, 0x0b), []byte{0x0b})); e != api.OK {
			t.Errorf("300 blocks one behind another: %d", e)
		}
		deep := slices.Concat(slices.Repeat([]api.Instr{{Op: int(op), A: -64}}, 65), slices.Repeat([]api.Instr{{Op: 0xb}}, 66))
		if Closed(deep) {
			t.Error("65 blocks are closed")
		}
		noBody(t, deep)
	}
}

// P6.2: 2000 and 2001 instructions; an error of the one that is too many comes first.
func TestMany(t *testing.T) {
	nop, end := api.Instr{Op: 1}, api.Instr{Op: 0xb}
	for _, n := range []int{1998, 1999} {
		b, l := join(repeat(n, 1), []byte{0x0b}), append(slices.Repeat([]api.Instr{nop}, n), end)
		wantBody(t, b, l, len(b), api.OK)
		wantBody(t, append(b, 0x27), l, len(b), api.OK)
		if got, e := PutBody(nil, l); !Closed(l) || e != api.OK || !bytes.Equal(got, b) {
			t.Errorf("%d instructions: %d", len(l), e)
		}
	}
	full := repeat(2000, 1)
	for _, c := range []struct {
		tail []byte
		e    api.Errno
	}{
		{[]byte{0x0b}, api.ErrLong}, {[]byte{1}, api.ErrLong}, {[]byte{5}, api.ErrLong}, {[]byte{2, 0x40}, api.ErrLong}, {[]byte{0x0b, 0xff}, api.ErrLong},
		{nil, api.ErrShort}, {[]byte{0x41}, api.ErrShort}, {[]byte{2}, api.ErrShort}, {[]byte{0x27}, api.ErrForm}, {[]byte{0x3f, 1}, api.ErrForm}, {[]byte{0x43}, api.ErrWide}, {[]byte{2, 0x7c}, api.ErrWide}, {[]byte{0x0e, 65}, api.ErrLong},
	} {
		wantBody(t, join(full, c.tail), nil, 0, c.e)
		againstModel(t, join(full, c.tail))
	}
	wantBody(t, join(repeat(1999, 1), []byte{5, 0x0b}), nil, 0, api.ErrForm)
	wantBody(t, repeat(5000, 0), nil, 0, api.ErrLong)
	againstModel(t, join(repeat(64, 2, 0x40), repeat(1871, 1), repeat(65, 0x0b)))
	againstModel(t, join(repeat(64, 2, 0x40), repeat(1872, 1), repeat(65, 0x0b)))
	for _, n := range []int{2000, 2001, 5000} {
		l := append(slices.Repeat([]api.Instr{nop}, n), end)
		if Closed(l) {
			t.Errorf("%d instructions are closed", len(l))
		}
		noBody(t, l)
	}
}

// P6.2, P6.3: all bodies of a few instructions, as bytes and as lists.
func TestAllBodies(t *testing.T) {
	parts := []api.Instr{{Op: 1}, {Op: 2, A: -64}, {Op: 3, A: 5}, {Op: 4, A: -1}, {Op: 5}, {Op: 0xb}, {Op: 0x43}, {Op: 0xd, A: -1}}
	var try func(l []api.Instr, b []byte, left int)
	try = func(l []api.Instr, b []byte, left int) {
		wantL, size, e := modelBody(b)
		wantBody(t, b, wantL, size, e)
		closed := modelClosed(l)
		if Closed(l) != closed {
			t.Errorf("Closed(%x) isn't %v", l, closed)
		}
		if got, e := PutBody(nil, l); (e == api.OK) != closed || closed && !bytes.Equal(got, b) || !closed && (len(got) != 0 || e != api.ErrForm) {
			t.Errorf("PutBody(%x): % x, %d", l, got, e)
		}
		if left == 0 {
			return
		}
		for _, x := range parts {
			try(append(l[:len(l):len(l)], x), append(b[:len(b):len(b)], modelPut(x)...), left-1)
		}
	}
	try(nil, nil, 6)
}

func noPut(t *testing.T, x api.Instr) {
	t.Helper()
	if Formed(x) {
		t.Errorf("%x is formed", x)
	}
	if b, e := Put([]byte{1, 2}, x); e != api.ErrForm || len(b) != 0 {
		t.Errorf("Put(%x): % x, %d; want ErrForm alone", x, b, e)
	}
	for _, l := range [][]api.Instr{{x, {Op: 0xb}}, {{Op: 2, A: -64}, x, {Op: 0xb}, {Op: 0xb}}, {x}} {
		if Closed(l) {
			t.Errorf("%x is closed", l)
		}
		noBody(t, l)
	}
}

func noBody(t *testing.T, l []api.Instr) {
	t.Helper()
	if b, e := PutBody([]byte{1, 2}, l); e != api.ErrForm || len(b) != 0 {
		t.Errorf("PutBody(%.60v): % x, %d; want ErrForm alone", l, b, e)
	}
}

// P6.3: instructions that aren't formed, written out.
func TestNotFormed(t *testing.T) {
	for _, x := range []api.Instr{
		{Op: 1, A: 1}, {Op: 1, B: 1}, {Op: 1, K: 1}, {Op: 1, L: []int{0}}, {Op: 0x6a, A: -1}, {Op: 0xb, K: -1}, {Op: 5, L: []int{1, 2}},
		{Op: 2, A: -3}, {Op: 2, A: -65}, {Op: 2, A: top + 1}, {Op: 3, A: -63}, {Op: 4, A: 0x7f - 256}, {Op: 4, A: -1, B: 1}, {Op: 2, A: -64, K: 1}, {Op: 2, L: []int{0}}, {Op: 2, A: math.MinInt}, {Op: 2, A: math.MaxInt},
		{Op: 0xc, A: -1}, {Op: 0xd, A: top + 1}, {Op: 0x10, B: 1}, {Op: 0x20, K: 1}, {Op: 0x24, L: []int{0}}, {Op: 0x20, A: math.MinInt}, {Op: 0x20, A: math.MaxInt},
		{Op: 0xe, A: -1}, {Op: 0xe, A: top + 1}, {Op: 0xe, L: []int{-1}}, {Op: 0xe, L: []int{0, top + 1}}, {Op: 0xe, L: []int{0, 1, math.MinInt}}, {Op: 0xe, L: make([]int, 65)}, {Op: 0xe, L: make([]int, 5000)}, {Op: 0xe, B: 1}, {Op: 0xe, K: 1},
		{Op: 0x11, A: -1}, {Op: 0x11, B: -1}, {Op: 0x11, A: top + 1}, {Op: 0x11, B: top + 1}, {Op: 0x11, K: 1}, {Op: 0x11, L: []int{0}}, {Op: 0x28, A: -1}, {Op: 0x3e, B: top + 1}, {Op: 0x36, B: math.MinInt}, {Op: 0x36, K: 1},
		{Op: 0x3f, A: 1}, {Op: 0x40, B: 1}, {Op: 0x40, K: 1}, {Op: 0x3f, L: []int{0}},
		{Op: 0x41, A: 1}, {Op: 0x41, K: math.MaxInt32 + 1}, {Op: 0x41, K: math.MinInt32 - 1}, {Op: 0x41, K: top}, {Op: 0x41, K: math.MinInt64}, {Op: 0x41, K: math.MaxInt64}, {Op: 0x42, A: 1}, {Op: 0x42, B: -1}, {Op: 0x42, K: 1, L: []int{0}},
		{Op: 0x108, A: -1}, {Op: 0x108, A: top + 1}, {Op: 0x108, B: 1}, {Op: 0x109, B: 1}, {Op: 0x10d, A: top + 1}, {Op: 0x10a, A: 1}, {Op: 0x10a, B: 1}, {Op: 0x10b, A: 1}, {Op: 0x10b, K: 1}, {Op: 0x10c, B: -1}, {Op: 0x10e, A: top + 1}, {Op: 0x10e, L: []int{0}},
		{Op: 6}, {Op: 0x27}, {Op: 0x1c}, {Op: 0x43}, {Op: 0xfc}, {Op: 0xfd}, {Op: 0xff}, {Op: 0x100}, {Op: 0x107}, {Op: 0x10f}, {Op: 0x111}, {Op: 0x112}, {Op: 0x16a}, {Op: 0x1fc}, {Op: api.Jump}, {Op: api.JumpNot},
		{Op: -1}, {Op: -0xf5}, {Op: 0x6a - 256}, {Op: 0x6a + 1<<32}, {Op: 0x10b + 1<<32}, {Op: 0x0b - 1<<32}, {Op: math.MinInt}, {Op: math.MaxInt}, {Op: math.MinInt + 1},
	} {
		noPut(t, x)
	}
}

// P6.3: every code, with each of its parts at, within and beyond the edges.
func TestFormed(t *testing.T) {
	for op := -0x20; op < 0x220; op++ {
		tries := []api.Instr{{Op: op}, {Op: op, L: []int{}}, {Op: op, L: []int{0}}, {Op: op, L: []int{top}}, {Op: op, L: []int{top + 1}}, {Op: op, L: []int{-1}}, {Op: op, L: make([]int, 64)}, {Op: op, L: make([]int, 65)}, {Op: op, A: 1, L: []int{3}}}
		for _, n := range []int{1, -1, -2, -3, -64, -65, 63, 64, top, top + 1, math.MinInt32, math.MinInt32 - 1, math.MaxInt32, math.MaxInt32 + 1, math.MinInt, math.MaxInt} {
			tries = append(tries, api.Instr{Op: op, A: n}, api.Instr{Op: op, B: n}, api.Instr{Op: op, K: int64(n)}, api.Instr{Op: op, A: n, B: n}, api.Instr{Op: op, A: 1, B: n}, api.Instr{Op: op, A: n, B: 1}, api.Instr{Op: op, A: n, K: 1}, api.Instr{Op: op, A: n, L: []int{1}})
		}
		for _, x := range tries {
			formed := modelFormed(x)
			if Formed(x) != formed {
				t.Errorf("Formed(%x) isn't %v", x, formed)
			}
			b, e := Put(nil, x)
			if formed && (e != api.OK || !bytes.Equal(b, modelPut(x))) || !formed && (e != api.ErrForm || len(b) != 0) {
				t.Errorf("Put(%x): % x, %d", x, b, e)
			}
		}
	}
}

// P6.3: lists that aren't closed, written out, and one that is.
func TestClosed(t *testing.T) {
	block, cond, end, otherwise, nop := api.Instr{Op: 2, A: -64}, api.Instr{Op: 4, A: -64}, api.Instr{Op: 0xb}, api.Instr{Op: 5}, api.Instr{Op: 1}
	for _, l := range [][]api.Instr{
		nil, {}, {nop}, {block}, {block, end}, {end, end}, {end, nop}, {nop, end, nop}, {block, end, end, end}, {end, block, end},
		{otherwise, end}, {block, otherwise, end, end}, {cond, otherwise, otherwise, end, end}, {cond, block, otherwise, end, end, end}, {cond, end, otherwise, end}, {cond, otherwise, end}, {nop, otherwise},
	} {
		if Closed(l) {
			t.Errorf("%x is closed", l)
		}
		noBody(t, l)
	}
	for _, l := range [][]api.Instr{{end}, {nop, end}, {block, end, end}, {cond, otherwise, end, end}, {cond, block, end, otherwise, end, nop, end}} {
		if !Closed(l) {
			t.Errorf("%x isn't closed", l)
		}
	}
}

// P6.3: bytes written out.
func TestPut(t *testing.T) {
	for _, c := range []struct {
		x api.Instr
		b []byte
	}{
		{api.Instr{}, []byte{0}}, {api.Instr{Op: 0xb, L: []int{}}, []byte{0xb}}, {api.Instr{Op: 2, A: -64}, []byte{2, 0x40}}, {api.Instr{Op: 3, A: -1}, []byte{3, 0x7f}}, {api.Instr{Op: 4, A: -2}, []byte{4, 0x7e}},
		{api.Instr{Op: 2, A: 64}, []byte{2, 0xc0, 0}}, {api.Instr{Op: 2, A: top}, []byte{2, 0xff, 0xff, 0xff, 0xff, 0x0f}}, {api.Instr{Op: 0xc, A: 64}, []byte{0xc, 0x40}}, {api.Instr{Op: 0x10, A: 128}, []byte{0x10, 0x80, 1}}, {api.Instr{Op: 0x21, A: top}, []byte{0x21, 0xff, 0xff, 0xff, 0xff, 0x0f}},
		{api.Instr{Op: 0xe, A: 3, L: []int{1, 128}}, []byte{0xe, 2, 1, 0x80, 1, 3}}, {api.Instr{Op: 0xe}, []byte{0xe, 0, 0}}, {api.Instr{Op: 0x11, A: 1, B: 2}, []byte{0x11, 1, 2}}, {api.Instr{Op: 0x28, A: 2, B: 144}, []byte{0x28, 2, 0x90, 1}},
		{api.Instr{Op: 0x3f}, []byte{0x3f, 0}}, {api.Instr{Op: 0x40}, []byte{0x40, 0}}, {api.Instr{Op: 0x41, K: -1}, []byte{0x41, 0x7f}}, {api.Instr{Op: 0x41, K: 64}, []byte{0x41, 0xc0, 0}}, {api.Instr{Op: 0x41, K: math.MinInt32}, []byte{0x41, 0x80, 0x80, 0x80, 0x80, 0x78}},
		{api.Instr{Op: 0x42, K: math.MaxInt64}, join([]byte{0x42}, repeat(9, 0xff), []byte{0})}, {api.Instr{Op: 0x108, A: 200}, []byte{0xfc, 8, 0xc8, 1, 0}}, {api.Instr{Op: 0x109, A: 2}, []byte{0xfc, 9, 2}}, {api.Instr{Op: 0x10a}, []byte{0xfc, 0xa, 0, 0}}, {api.Instr{Op: 0x10b}, []byte{0xfc, 0xb, 0}},
		{api.Instr{Op: 0x10c, A: 1, B: 2}, []byte{0xfc, 0xc, 1, 2}}, {api.Instr{Op: 0x10d, A: 1}, []byte{0xfc, 0xd, 1}}, {api.Instr{Op: 0x10e, A: 1, B: 2}, []byte{0xfc, 0xe, 1, 2}},
	} {
		if b, e := Put(nil, c.x); !Formed(c.x) || e != api.OK || !bytes.Equal(b, c.b) {
			t.Errorf("Put(%x) = % x, %d; want % x", c.x, b, e, c.b)
		}
	}
}

// P6.4: what was put is read, whole and with bytes behind it; and it is put behind what there was.
func TestPutIsRead(t *testing.T) {
	ahead := []byte{9, 0x80}
	body := []api.Instr{{Op: 3, A: -1}}
	for _, x := range some() {
		b, e := Put(ahead, x)
		if e != api.OK || !bytes.HasPrefix(b, ahead) {
			t.Fatalf("Put(%x): % x, %d", x, b, e)
		}
		b = b[2:]
		for _, tail := range [][]byte{nil, {0}, {0x80}, {0xff, 0x0b}} {
			wantOne(t, join(b, tail), x, len(b), api.OK)
		}
		if x.Op != 5 && x.Op != 0xb && (x.Op < 2 || x.Op > 4) {
			body = append(body, x)
		}
	}
	body = append(body, api.Instr{Op: 0xb}, api.Instr{Op: 0xb})
	b, e := PutBody(ahead, body)
	if e != api.OK || !bytes.HasPrefix(b, ahead) {
		t.Fatalf("PutBody: %d", e)
	}
	wantBody(t, b[2:], body, len(b)-2, api.OK)
	wantBody(t, append(b[2:], 0xff), body, len(b)-2, api.OK)
}

// P6.4: what is read may be put, in no more bytes, and is read again.
func readIsPut(t *testing.T, b []byte) {
	t.Helper()
	if x, size, e := One(b); e == api.OK {
		again, e := Put(nil, x)
		if e != api.OK || len(again) > size {
			t.Errorf("Put of One(% x): % x, %d", b, again, e)
		}
		wantOne(t, again, x, len(again), api.OK)
	}
	if l, size, e := Body(b); e == api.OK {
		again, e := PutBody(nil, l)
		if e != api.OK || len(again) > size {
			t.Errorf("PutBody of Body(% x): % x, %d", b, again, e)
		}
		wantBody(t, again, l, len(again), api.OK)
	}
}

func TestReadIsPut(t *testing.T) {
	for x := range 256 {
		for y := range 256 {
			for _, tail := range [][]byte{nil, {0x0b}, {0, 0, 0x0b}, {0x0b, 0x0b}, {0x80, 0, 0x80, 0, 0x0b}} {
				readIsPut(t, join([]byte{byte(x), byte(y)}, tail))
			}
		}
	}
}

// P6.3: neither what stands ahead nor its spare room is written or kept, and the lists handed in
// stay as they are, their spare room too.
func TestPutBehind(t *testing.T) {
	room := []int{1, 2, 77}
	body := []api.Instr{{Op: 0xe, A: 3, L: room[:2]}, {Op: 0xb}, {Op: 0x99}}
	for _, p := range []struct {
		name string
		call func([]byte) ([]byte, api.Errno)
		tail []byte
	}{
		{"Put", func(b []byte) ([]byte, api.Errno) { return Put(b, body[0]) }, []byte{0xe, 2, 1, 2, 3}},
		{"Put, one byte", func(b []byte) ([]byte, api.Errno) { return Put(b, api.Instr{Op: 1}) }, []byte{1}},
		{"Put, a block", func(b []byte) ([]byte, api.Errno) { return Put(b, api.Instr{Op: 2, A: -64}) }, []byte{2, 0x40}},
		{"PutBody", func(b []byte) ([]byte, api.Errno) { return PutBody(b, body[:2]) }, []byte{0xe, 2, 1, 2, 3, 0xb}},
	} {
		spare := repeat(64, 0x11)
		for _, size := range []int{0, 1, 30, 64} {
			got, e := p.call(spare[:size])
			if e != api.OK || !bytes.Equal(got, join(spare[:size], p.tail)) {
				t.Fatalf("%s behind %d bytes: % x, %d", p.name, size, got, e)
			}
			clear(got[:cap(got)])
			if !bytes.Equal(spare, repeat(64, 0x11)) {
				t.Fatalf("%s behind %d bytes shares memory: % x", p.name, size, spare)
			}
		}
	}
	Formed(body[0])
	Closed(body[:2])
	if !slices.Equal(room, []int{1, 2, 77}) || !sameList(body, []api.Instr{{Op: 0xe, A: 3, L: []int{1, 2}}, {Op: 0xb}, {Op: 0x99}}) {
		t.Errorf("changed: %x, %x", room, body)
	}
}

// P6.1, P6.2: the bytes that are read are not changed, and no two lists of an answer, or of two
// answers, share anything.
func TestReadSharesNothing(t *testing.T) {
	b := []byte{0x0e, 1, 5, 6, 0x0e, 2, 7, 8, 9, 0x0b, 0xee}
	kept := slices.Clone(b)
	one, _, _ := One(b)
	first, _, _ := Body(b)
	second, _, _ := Body(b)
	if !bytes.Equal(b, kept) {
		t.Fatalf("changed: % x", b)
	}
	want := slices.Clone(second)
	want[0].L, want[1].L = []int{5}, []int{7, 8}
	for _, l := range [][]int{one.L, first[0].L} {
		clear(l[:cap(l)])
	}
	if !slices.Equal(first[1].L, []int{7, 8}) || !sameList(second, want) {
		t.Errorf("lists share memory: %x, %x", first, second)
	}
	clear(first[:cap(first)])
	if !sameList(second, want) {
		t.Errorf("answers share memory: %x", second)
	}
}

func FuzzAgainstModel(f *testing.F) {
	f.Add([]byte{4, 0x7f, 0x41, 1, 5, 0x41, 2, 0x0b, 0x0b})
	f.Add([]byte{0x0e, 2, 1, 2, 3, 0x0b})
	f.Add([]byte{0xfc, 8, 1, 0, 0xfc, 0xa, 0, 0, 0x0b})
	f.Add(join(repeat(64, 2, 0x40), repeat(65, 0x0b)))
	f.Fuzz(func(t *testing.T, b []byte) {
		againstModel(t, b)
		readIsPut(t, b)
	})
}

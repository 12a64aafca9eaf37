package typ

import (
	"bytes"
	"math"
	"slices"
	"testing"

	"trammel/api"
)

const (
	i32 = api.I32
	i64 = api.I64
	top = 1<<32 - 1
)

// reader is a model of the chapter's 'byte by byte': it takes one byte after the other, and stays
// at the first error. Its numbers are added up, not shifted together.
type reader struct {
	b  []byte
	at int
	e  api.Errno
}

func (r *reader) fail(e api.Errno) {
	if r.e == api.OK {
		r.e = e
	}
}

func (r *reader) next() int {
	if r.e != api.OK {
		return 0
	}
	if r.at == len(r.b) {
		r.fail(api.ErrShort)
		return 0
	}
	r.at++
	return int(r.b[r.at-1])
}

// digits adds up to five pieces of seven bits, and tells how many there were, and the last.
func (r *reader) digits() (sum, count, last int) {
	for weight := 1; count < 5 && r.e == api.OK; weight *= 128 {
		last = r.next()
		sum += last % 128 * weight
		count++
		if last < 128 {
			return sum, count, last
		}
	}
	r.fail(api.ErrForm)
	return 0, 0, 0
}

func (r *reader) unsigned() int {
	n, _, _ := r.digits()
	if n > top {
		r.fail(api.ErrForm)
	}
	return n
}

// signed is a number of 33 bits: five pieces have 35 of which the upper three must be alike.
func (r *reader) signed() int {
	n, count, last := r.digits()
	if last >= 64 {
		n -= int(math.Pow(128, float64(count)))
	}
	if n > top || n < -top-1 {
		r.fail(api.ErrForm)
	}
	return n
}

func (r *reader) value() int {
	v := r.next()
	switch {
	case r.e != api.OK || v == 0x7f || v == 0x7e:
	case slices.Contains(notDone(), byte(v)):
		r.fail(api.ErrWide)
	default:
		r.fail(api.ErrForm)
	}
	return v
}

func (r *reader) list() []int {
	var l []int
	n := r.unsigned()
	if n > 8 {
		r.fail(api.ErrLong)
	}
	for i := 0; r.e == api.OK && i < n; i++ {
		l = append(l, r.value())
	}
	return l
}

func (r *reader) function() api.FuncType {
	if first := r.next(); first != 0x60 {
		r.fail(api.ErrForm)
	}
	p := r.list()
	return api.FuncType{Params: p, Results: r.list()}
}

func (r *reader) limits() api.Limits {
	first := r.next()
	if first > 1 {
		r.fail(api.ErrForm)
	}
	l := api.Limits{Min: r.unsigned()}
	if first == 1 {
		l.Capped = true
		l.Max = r.unsigned()
	}
	return l
}

func (r *reader) block() int {
	first := r.next()
	switch {
	case r.e != api.OK:
		return 0
	case first == 0x40:
		return -64
	case first == 0x7f:
		return -1
	case first == 0x7e:
		return -2
	case slices.Contains(notDone(), byte(first)):
		r.fail(api.ErrWide)
	}
	r.at--
	n := r.signed()
	if n < 0 {
		r.fail(api.ErrForm)
	}
	return n
}

func notDone() []byte { return []byte{0x7d, 0x7c, 0x7b, 0x70, 0x6f} }

func sameFunc(a, b api.FuncType) bool {
	return slices.Equal(a.Params, b.Params) && slices.Equal(a.Results, b.Results)
}

func wantVal(t *testing.T, b []byte, v, size int, e api.Errno) {
	t.Helper()
	if gv, gs, ge := Val(b); gv != v || gs != size || ge != e {
		t.Errorf("Val(% x) = %x, %d, %d; want %x, %d, %d", b, gv, gs, ge, v, size, e)
	}
}

func wantFunc(t *testing.T, b []byte, f api.FuncType, size int, e api.Errno) {
	t.Helper()
	if gf, gs, ge := Func(b); !sameFunc(gf, f) || gs != size || ge != e {
		t.Errorf("Func(% x) = %x, %d, %d; want %x, %d, %d", b, gf, gs, ge, f, size, e)
	}
}

func wantLimits(t *testing.T, b []byte, l api.Limits, size int, e api.Errno) {
	t.Helper()
	if gl, gs, ge := Limits(b); gl != l || gs != size || ge != e {
		t.Errorf("Limits(% x) = %v, %d, %d; want %v, %d, %d", b, gl, gs, ge, l, size, e)
	}
}

func wantBlock(t *testing.T, b []byte, k, size int, e api.Errno) {
	t.Helper()
	if gk, gs, ge := Block(b); gk != k || gs != size || ge != e {
		t.Errorf("Block(% x) = %d, %d, %d; want %d, %d, %d", b, gk, gs, ge, k, size, e)
	}
}

// againstModel holds all that is read against the model.
func againstModel(t *testing.T, b []byte) {
	t.Helper()
	r := &reader{b: b}
	if v := r.value(); r.e == api.OK {
		wantVal(t, b, v, r.at, api.OK)
	} else {
		wantVal(t, b, 0, 0, r.e)
	}
	r = &reader{b: b}
	if f := r.function(); r.e == api.OK {
		wantFunc(t, b, f, r.at, api.OK)
	} else {
		wantFunc(t, b, api.FuncType{}, 0, r.e)
	}
	r = &reader{b: b}
	if l := r.limits(); r.e == api.OK {
		wantLimits(t, b, l, r.at, api.OK)
	} else {
		wantLimits(t, b, api.Limits{}, 0, r.e)
	}
	r = &reader{b: b}
	if k := r.block(); r.e == api.OK {
		wantBlock(t, b, k, r.at, api.OK)
	} else {
		wantBlock(t, b, 0, 0, r.e)
	}
}

// P5.1: every first byte of a value's type, alone and with bytes behind it.
func TestVal(t *testing.T) {
	wantVal(t, nil, 0, 0, api.ErrShort)
	wantVal(t, []byte{}, 0, 0, api.ErrShort)
	for x := range 256 {
		for _, b := range [][]byte{{byte(x)}, {byte(x), 0x7f}, {byte(x), 0, 0xff}} {
			switch x {
			case 0x7f:
				wantVal(t, b, i32, 1, api.OK)
			case 0x7e:
				wantVal(t, b, i64, 1, api.OK)
			case 0x7d, 0x7c, 0x7b, 0x70, 0x6f:
				wantVal(t, b, 0, 0, api.ErrWide)
			default:
				wantVal(t, b, 0, 0, api.ErrForm)
			}
		}
	}
}

// P5.1: functions' types written out: the example, none, 8, numbers in longer forms, and bytes
// behind the type.
func TestFunc(t *testing.T) {
	eight := []int{i32, i64, i32, i32, i64, i64, i64, i32}
	for _, c := range []struct {
		b    []byte
		f    api.FuncType
		size int
	}{
		{[]byte{0x60, 2, 0x7f, 0x7e, 1, 0x7f}, api.FuncType{Params: []int{i32, i64}, Results: []int{i32}}, 6},
		{[]byte{0x60, 0, 0}, api.FuncType{}, 3},
		{[]byte{0x60, 0, 0, 0x7f, 0x7d}, api.FuncType{}, 3},
		{[]byte{0x60, 1, 0x7f, 0}, api.FuncType{Params: []int{i32}}, 4},
		{[]byte{0x60, 0, 1, 0x7e}, api.FuncType{Results: []int{i64}}, 4},
		{[]byte{0x60, 0, 2, 0x7e, 0x7f, 0x7f}, api.FuncType{Results: []int{i64, i32}}, 5},
		{[]byte{0x60, 8, 0x7f, 0x7e, 0x7f, 0x7f, 0x7e, 0x7e, 0x7e, 0x7f, 0}, api.FuncType{Params: eight}, 11},
		{[]byte{0x60, 0, 8, 0x7f, 0x7e, 0x7f, 0x7f, 0x7e, 0x7e, 0x7e, 0x7f}, api.FuncType{Results: eight}, 11},
		{[]byte{0x60, 0x81, 0, 0x7f, 0x80, 0x80, 0}, api.FuncType{Params: []int{i32}}, 7},
		{[]byte{0x60, 0x80, 0x80, 0x80, 0x80, 0, 0x81, 0x80, 0x80, 0x80, 0, 0x7e, 9}, api.FuncType{Results: []int{i64}}, 12},
	} {
		wantFunc(t, c.b, c.f, c.size, api.OK)
	}
}

// P5.1: the error that comes first, whatever stands behind it.
func TestFuncErrors(t *testing.T) {
	for _, c := range []struct {
		b []byte
		e api.Errno
	}{
		{nil, api.ErrShort}, {[]byte{}, api.ErrShort}, {[]byte{0x60}, api.ErrShort}, {[]byte{0x60, 0}, api.ErrShort},
		{[]byte{0x60, 1}, api.ErrShort}, {[]byte{0x60, 1, 0x7f}, api.ErrShort}, {[]byte{0x60, 0, 1}, api.ErrShort},
		{[]byte{0x60, 0x81}, api.ErrShort}, {[]byte{0x60, 0, 0x80, 0x80}, api.ErrShort}, {[]byte{0x60, 8}, api.ErrShort},
		{[]byte{0x60, 0, 8, 0x7f, 0x7f, 0x7f, 0x7f, 0x7f, 0x7f, 0x7f}, api.ErrShort},
		{[]byte{0x61}, api.ErrForm}, {[]byte{0x5f, 0, 0}, api.ErrForm}, {[]byte{0xe0, 0, 0}, api.ErrForm}, {[]byte{0x7f}, api.ErrForm}, {[]byte{0x7d}, api.ErrForm}, {[]byte{0}, api.ErrForm}, {[]byte{0x40}, api.ErrForm},
		{[]byte{0x60, 1, 0x40}, api.ErrForm}, {[]byte{0x60, 0, 1, 0x60}, api.ErrForm}, {[]byte{0x60, 2, 0x7f, 0xff}, api.ErrForm}, {[]byte{0x60, 2, 0}, api.ErrForm},
		{[]byte{0x60, 0x80, 0x80, 0x80, 0x80, 0x10, 0}, api.ErrForm}, {[]byte{0x60, 0x80, 0x80, 0x80, 0x80, 0x80, 0}, api.ErrForm}, {[]byte{0x60, 0, 0x89, 0x80, 0x80, 0x80, 0x10}, api.ErrForm},
		{[]byte{0x60, 1, 0x7d}, api.ErrWide}, {[]byte{0x60, 0, 1, 0x7c}, api.ErrWide}, {[]byte{0x60, 8, 0x7f, 0x7b}, api.ErrWide}, {[]byte{0x60, 2, 0x70, 0}, api.ErrWide}, {[]byte{0x60, 0, 2, 0x6f, 0x7d}, api.ErrWide},
		{[]byte{0x60, 1, 0x7d, 9}, api.ErrWide}, {[]byte{0x60, 2, 0, 0x7d}, api.ErrForm},
		{[]byte{0x60, 9}, api.ErrLong}, {[]byte{0x60, 0, 9}, api.ErrLong}, {[]byte{0x60, 9, 0x40}, api.ErrLong}, {[]byte{0x60, 9, 0x7d}, api.ErrLong}, {[]byte{0x60, 1, 0x7f, 9}, api.ErrLong},
		{[]byte{0x60, 0x89, 0}, api.ErrLong}, {[]byte{0x60, 0xff, 0xff, 0xff, 0xff, 0x0f}, api.ErrLong}, {[]byte{0x60, 0x80, 0x80, 0x80, 0x80, 0x08}, api.ErrLong}, {[]byte{0x60, 0, 0x80, 2}, api.ErrLong},
		{[]byte{0x60, 9, 0x7f, 0x7f, 0x7f, 0x7f, 0x7f, 0x7f, 0x7f, 0x7f, 0x7f, 0}, api.ErrLong},
		{[]byte{0x60, 0, 9, 0x7f, 0x7f, 0x7f, 0x7f, 0x7f, 0x7f, 0x7f, 0x7f, 0x7f}, api.ErrLong},
		{[]byte{0x61, 9}, api.ErrForm}, {[]byte{0x60, 1, 0x7a, 9}, api.ErrForm},
	} {
		wantFunc(t, c.b, api.FuncType{}, 0, c.e)
	}
}

// P5.1: limits written out: 0 and 2^32 - 1, capped and not, a most below the least, longer
// forms, bytes behind; and what is none.
func TestLimits(t *testing.T) {
	for _, c := range []struct {
		b    []byte
		l    api.Limits
		size int
		e    api.Errno
	}{
		{[]byte{0, 0}, api.Limits{}, 2, api.OK},
		{[]byte{0, 5}, api.Limits{Min: 5}, 2, api.OK},
		{[]byte{0, 5, 7}, api.Limits{Min: 5}, 2, api.OK},
		{[]byte{0, 0xff, 0xff, 0xff, 0xff, 0x0f}, api.Limits{Min: top}, 6, api.OK},
		{[]byte{1, 2, 3}, api.Limits{Min: 2, Capped: true, Max: 3}, 3, api.OK},
		{[]byte{1, 0, 0}, api.Limits{Capped: true}, 3, api.OK},
		{[]byte{1, 3, 2, 1}, api.Limits{Min: 3, Capped: true, Max: 2}, 3, api.OK},
		{[]byte{1, 0x80, 1, 0xff, 0xff, 0xff, 0xff, 0x0f}, api.Limits{Min: 128, Capped: true, Max: top}, 8, api.OK},
		{[]byte{1, 0xff, 0xff, 0xff, 0xff, 0x0f, 0xff, 0xff, 0xff, 0xff, 0x0f, 0x80}, api.Limits{Min: top, Capped: true, Max: top}, 11, api.OK},
		{[]byte{0, 0x85, 0x80, 0}, api.Limits{Min: 5}, 4, api.OK},
		{[]byte{1, 0x80, 0x80, 0x80, 0x80, 0, 0x83, 0}, api.Limits{Capped: true, Max: 3}, 8, api.OK},
		{nil, api.Limits{}, 0, api.ErrShort}, {[]byte{}, api.Limits{}, 0, api.ErrShort},
		{[]byte{0}, api.Limits{}, 0, api.ErrShort}, {[]byte{1}, api.Limits{}, 0, api.ErrShort}, {[]byte{1, 2}, api.Limits{}, 0, api.ErrShort},
		{[]byte{0, 0x80}, api.Limits{}, 0, api.ErrShort}, {[]byte{1, 2, 0xff, 0xff}, api.Limits{}, 0, api.ErrShort},
		{[]byte{2}, api.Limits{}, 0, api.ErrForm}, {[]byte{2, 2}, api.Limits{}, 0, api.ErrForm}, {[]byte{3, 1, 2}, api.Limits{}, 0, api.ErrForm},
		{[]byte{0x80, 0, 0}, api.Limits{}, 0, api.ErrForm}, {[]byte{0x81, 0, 1, 2}, api.Limits{}, 0, api.ErrForm}, {[]byte{0xff}, api.Limits{}, 0, api.ErrForm}, {[]byte{0x7d, 1}, api.Limits{}, 0, api.ErrForm},
		{[]byte{0, 0xff, 0xff, 0xff, 0xff, 0x1f}, api.Limits{}, 0, api.ErrForm}, {[]byte{0, 0x80, 0x80, 0x80, 0x80, 0x80, 0}, api.Limits{}, 0, api.ErrForm},
		{[]byte{1, 0x80, 0x80, 0x80, 0x80, 0x10}, api.Limits{}, 0, api.ErrForm}, {[]byte{1, 0, 0x80, 0x80, 0x80, 0x80, 0x10}, api.Limits{}, 0, api.ErrForm},
	} {
		wantLimits(t, c.b, c.l, c.size, c.e)
	}
	for x := 2; x < 256; x++ {
		wantLimits(t, []byte{byte(x)}, api.Limits{}, 0, api.ErrForm)
		wantLimits(t, []byte{byte(x), 1, 2}, api.Limits{}, 0, api.ErrForm)
	}
}

// P5.1: blocks' types written out: nothing, a value, numbers; below 0, also in longer forms of
// what in one byte is a type.
func TestBlock(t *testing.T) {
	for _, c := range []struct {
		b       []byte
		k, size int
		e       api.Errno
	}{
		{[]byte{0x40}, api.Empty, 1, api.OK}, {[]byte{0x40, 0x7f}, api.Empty, 1, api.OK},
		{[]byte{0x7f}, -1, 1, api.OK}, {[]byte{0x7f, 0x80}, -1, 1, api.OK}, {[]byte{0x7e}, -2, 1, api.OK}, {[]byte{0x7e, 1}, -2, 1, api.OK},
		{[]byte{0}, 0, 1, api.OK}, {[]byte{5}, 5, 1, api.OK}, {[]byte{0x3f}, 63, 1, api.OK}, {[]byte{5, 0x7d}, 5, 1, api.OK},
		{[]byte{0xc0, 0}, 64, 2, api.OK}, {[]byte{0xff, 0}, 127, 2, api.OK}, {[]byte{0xfd, 0, 0xff}, 125, 2, api.OK}, {[]byte{0xf0, 0}, 112, 2, api.OK},
		{[]byte{0xff, 0xff, 0xff, 0xff, 0x0f}, top, 5, api.OK}, {[]byte{0xff, 0xff, 0xff, 0xff, 0x07}, 1<<31 - 1, 5, api.OK}, {[]byte{0x80, 0x80, 0x80, 0x80, 0x08}, 1 << 31, 5, api.OK},
		{[]byte{0x80, 0}, 0, 2, api.OK}, {[]byte{0x80, 0x80, 0x80, 0x80, 0}, 0, 5, api.OK}, {[]byte{0x85, 0x80, 0, 1}, 5, 3, api.OK},
		{nil, 0, 0, api.ErrShort}, {[]byte{}, 0, 0, api.ErrShort}, {[]byte{0x80}, 0, 0, api.ErrShort}, {[]byte{0xc0}, 0, 0, api.ErrShort}, {[]byte{0xfd}, 0, 0, api.ErrShort}, {[]byte{0xff, 0xff, 0xff, 0xff}, 0, 0, api.ErrShort},
		{[]byte{0x7d}, 0, 0, api.ErrWide}, {[]byte{0x7c}, 0, 0, api.ErrWide}, {[]byte{0x7b}, 0, 0, api.ErrWide}, {[]byte{0x70}, 0, 0, api.ErrWide}, {[]byte{0x6f}, 0, 0, api.ErrWide}, {[]byte{0x7d, 0xff}, 0, 0, api.ErrWide},
		{[]byte{0x7a}, 0, 0, api.ErrForm}, {[]byte{0x41}, 0, 0, api.ErrForm}, {[]byte{0x60}, 0, 0, api.ErrForm}, {[]byte{0x71, 1}, 0, 0, api.ErrForm}, {[]byte{0x6e}, 0, 0, api.ErrForm},
		{[]byte{0xff, 0x7f}, 0, 0, api.ErrForm}, {[]byte{0xfe, 0x7f}, 0, 0, api.ErrForm}, {[]byte{0xfd, 0x7f}, 0, 0, api.ErrForm}, {[]byte{0xc0, 0x7f}, 0, 0, api.ErrForm}, {[]byte{0x80, 0x40}, 0, 0, api.ErrForm},
		{[]byte{0xff, 0xff, 0xff, 0xff, 0x7f}, 0, 0, api.ErrForm}, {[]byte{0x80, 0x80, 0x80, 0x80, 0x70}, 0, 0, api.ErrForm},
		{[]byte{0xff, 0xff, 0xff, 0xff, 0x1f}, 0, 0, api.ErrForm}, {[]byte{0x80, 0x80, 0x80, 0x80, 0x10}, 0, 0, api.ErrForm}, {[]byte{0x80, 0x80, 0x80, 0x80, 0x20}, 0, 0, api.ErrForm}, {[]byte{0x80, 0x80, 0x80, 0x80, 0x80, 0}, 0, 0, api.ErrForm},
	} {
		wantBlock(t, c.b, c.k, c.size, c.e)
	}
}

// P5.1: all bytes up to two, and up to three behind each first byte that leads somewhere.
func TestAllShort(t *testing.T) {
	againstModel(t, nil)
	for x := range 256 {
		againstModel(t, []byte{byte(x)})
		for y := range 256 {
			b := []byte{byte(x), byte(y)}
			againstModel(t, b)
			for _, lead := range []byte{0, 1, 0x60, 0x80, 0xff} {
				againstModel(t, append([]byte{lead}, b...))
				againstModel(t, append([]byte{0x60, lead}, b...))
			}
		}
	}
}

// P5.1: numbers of all lengths around the most bytes that they may have, with every last byte,
// in each place where a number stands.
func TestLongNumbers(t *testing.T) {
	for lead := range 7 {
		for _, fill := range []byte{0x80, 0x81, 0xff, 0xd5} {
			for last := range 256 {
				n := append(bytes.Repeat([]byte{fill}, lead), byte(last))
				againstModel(t, n)
				for _, before := range [][]byte{{0}, {1}, {1, 3}, {0x60}, {0x60, 0}, {0x60, 1, 0x7e}} {
					againstModel(t, slices.Concat(before, n))
					againstModel(t, slices.Concat(before, n, []byte{0, 0x7f, 0x7f}))
				}
			}
		}
	}
}

// kinds is lists of 0 to 8 types in which every place has either type.
func kinds() [][]int {
	lists := [][]int{nil, {}}
	for n := 1; n <= 8; n++ {
		for bits := 0; bits < 1<<n; bits++ {
			l := make([]int, n)
			for i := range l {
				l[i] = i32 - bits>>i&1
			}
			lists = append(lists, l)
		}
	}
	return lists
}

func someFuncs() []api.FuncType {
	var all []api.FuncType
	lists := kinds()
	for i, l := range lists {
		all = append(all, api.FuncType{Params: l}, api.FuncType{Results: l}, api.FuncType{Params: l, Results: lists[(i*7+3)%len(lists)]})
	}
	return all
}

func someNumbers() []int {
	ns := []int{0, 1, 5, 100, 624485, top - 1, top}
	for k := 1; k < 32; k++ {
		ns = append(ns, 1<<k-1, 1<<k, 1<<k+1)
	}
	slices.Sort(ns)
	return slices.Compact(ns)
}

func someLimits() []api.Limits {
	var all []api.Limits
	for _, low := range someNumbers() {
		all = append(all, api.Limits{Min: low})
		for _, high := range someNumbers() {
			all = append(all, api.Limits{Min: low, Capped: true, Max: high})
		}
	}
	return all
}

func someBlocks() []int { return append([]int{api.Empty, -1, -2}, someNumbers()...) }

func put(t *testing.T, b []byte, e api.Errno) []byte {
	t.Helper()
	if e != api.OK {
		t.Errorf("put: %d", e)
	}
	return b
}

// P5.1: what is right, cut at each place, is too short; with any one byte changed it is what the
// model says.
func TestCutAndChanged(t *testing.T) {
	whole := [][]byte{
		{0x60, 2, 0x7f, 0x7e, 1, 0x7f}, {0x60, 8, 0x7f, 0x7e, 0x7f, 0x7f, 0x7e, 0x7e, 0x7e, 0x7f, 0x88, 0, 0x7f, 0x7e, 0x7f, 0x7f, 0x7e, 0x7e, 0x7e, 0x7f},
		{0, 0xe5, 0x8e, 0x26}, {1, 0xff, 0xff, 0xff, 0xff, 0x0f, 0x80, 0x80, 0x80, 0x80, 0x08}, {0xff, 0xff, 0xff, 0xff, 0x0f}, {0xc0, 0}, {0x7f}, {0x40},
	}
	for _, b := range whole {
		for cut := range b {
			againstModel(t, b[:cut])
			for x := range 256 {
				changed := slices.Clone(b)
				changed[cut] = byte(x)
				againstModel(t, changed)
			}
		}
	}
	for cut := range whole[1] {
		wantFunc(t, whole[1][:cut], api.FuncType{}, 0, api.ErrShort)
	}
	for cut := range whole[3] {
		wantLimits(t, whole[3][:cut], api.Limits{}, 0, api.ErrShort)
	}
	for cut := range whole[4] {
		wantBlock(t, whole[4][:cut], 0, 0, api.ErrShort)
	}
}

// P5.2: bytes written out.
func TestPut(t *testing.T) {
	for _, c := range []struct {
		f api.FuncType
		b []byte
	}{
		{api.FuncType{}, []byte{0x60, 0, 0}},
		{api.FuncType{Params: []int{}, Results: []int{}}, []byte{0x60, 0, 0}},
		{api.FuncType{Params: []int{i32, i64}, Results: []int{i32}}, []byte{0x60, 2, 0x7f, 0x7e, 1, 0x7f}},
		{api.FuncType{Results: []int{i64, i32}}, []byte{0x60, 0, 2, 0x7e, 0x7f}},
		{api.FuncType{Params: []int{i64, i64, i64, i64, i64, i64, i64, i32}}, []byte{0x60, 8, 0x7e, 0x7e, 0x7e, 0x7e, 0x7e, 0x7e, 0x7e, 0x7f, 0}},
		{api.FuncType{Results: []int{i32, i64, i64, i64, i64, i64, i64, i64}}, []byte{0x60, 0, 8, 0x7f, 0x7e, 0x7e, 0x7e, 0x7e, 0x7e, 0x7e, 0x7e}},
	} {
		if b, e := PutFunc(nil, c.f); e != api.OK || !bytes.Equal(b, c.b) {
			t.Errorf("PutFunc(%x) = % x, %d; want % x", c.f, b, e, c.b)
		}
	}
	for _, c := range []struct {
		l api.Limits
		b []byte
	}{
		{api.Limits{}, []byte{0, 0}}, {api.Limits{Min: 127}, []byte{0, 0x7f}}, {api.Limits{Min: 128}, []byte{0, 0x80, 1}}, {api.Limits{Min: top}, []byte{0, 0xff, 0xff, 0xff, 0xff, 0x0f}},
		{api.Limits{Capped: true}, []byte{1, 0, 0}}, {api.Limits{Min: 2, Capped: true, Max: 3}, []byte{1, 2, 3}}, {api.Limits{Min: 3, Capped: true, Max: 2}, []byte{1, 3, 2}},
		{api.Limits{Min: 64, Capped: true, Max: top}, []byte{1, 0x40, 0xff, 0xff, 0xff, 0xff, 0x0f}}, {api.Limits{Min: top, Capped: true}, []byte{1, 0xff, 0xff, 0xff, 0xff, 0x0f, 0}},
	} {
		if b, e := PutLimits(nil, c.l); e != api.OK || !bytes.Equal(b, c.b) {
			t.Errorf("PutLimits(%v) = % x, %d; want % x", c.l, b, e, c.b)
		}
	}
	for _, c := range []struct {
		k int
		b []byte
	}{
		{api.Empty, []byte{0x40}}, {-1, []byte{0x7f}}, {-2, []byte{0x7e}}, {0, []byte{0}}, {5, []byte{5}}, {63, []byte{0x3f}}, {64, []byte{0xc0, 0}}, {127, []byte{0xff, 0}}, {128, []byte{0x80, 1}},
		{1 << 31, []byte{0x80, 0x80, 0x80, 0x80, 0x08}}, {top, []byte{0xff, 0xff, 0xff, 0xff, 0x0f}},
	} {
		if b, e := PutBlock(nil, c.k); e != api.OK || !bytes.Equal(b, c.b) {
			t.Errorf("PutBlock(%d) = % x, %d; want % x", c.k, b, e, c.b)
		}
	}
}

func noPut(t *testing.T, what any, b []byte, e api.Errno) {
	t.Helper()
	if e != api.ErrForm || len(b) != 0 {
		t.Errorf("put %v: % x, %d; want ErrForm alone", what, b, e)
	}
}

// P5.2: functions' types that may not be put: a type that is neither, in each place, and 9.
func TestPutFuncErrors(t *testing.T) {
	neither := []int{0, 1, -1, -2, 0x40, 0x60, 0x6f, 0x70, 0x7b, 0x7c, 0x7d, 0x80, 0xff, -129, -130, 0x17f, 0x17e, 0x7f - 1<<8, 0x7f + 1<<32, 0x7e + 1<<32, math.MinInt, math.MaxInt, math.MinInt + 0x7f, api.Empty}
	for n := 1; n <= 8; n++ {
		for at := range n {
			for _, v := range neither {
				l := slices.Repeat([]int{i32}, n)
				l[at] = v
				for _, f := range []api.FuncType{{Params: l}, {Results: l}, {Params: []int{i64}, Results: l}, {Params: l, Results: []int{i64}}} {
					b, e := PutFunc([]byte{1, 2}, f)
					noPut(t, f, b, e)
				}
			}
		}
	}
	for _, n := range []int{9, 10, 64, 127, 128, 256, 264, 65536} {
		for _, v := range []int{i32, i64, 0} {
			l := slices.Repeat([]int{v}, n)
			for _, f := range []api.FuncType{{Params: l}, {Results: l}, {Params: l, Results: l}} {
				b, e := PutFunc(nil, f)
				noPut(t, n, b, e)
			}
		}
	}
}

// P5.2: limits and blocks' types that may not be put.
func TestPutOtherErrors(t *testing.T) {
	outside := []int{-1, -2, -64, -1 << 32, top + 1, top + 2, 1 << 40, math.MinInt, math.MaxInt}
	for _, n := range outside {
		for _, l := range []api.Limits{{Min: n}, {Min: n, Capped: true}, {Min: n, Capped: true, Max: n}, {Capped: true, Max: n}, {Min: 5, Capped: true, Max: n}, {Max: n}} {
			b, e := PutLimits([]byte{7}, l)
			noPut(t, l, b, e)
		}
	}
	for _, n := range []int{1, 2, 64, top} {
		for _, l := range []api.Limits{{Max: n}, {Min: n, Max: n}, {Min: 1, Max: n}} {
			b, e := PutLimits(nil, l)
			noPut(t, l, b, e)
		}
	}
	for k := -1000; k < -2; k++ {
		if k != api.Empty {
			b, e := PutBlock([]byte{7}, k)
			noPut(t, k, b, e)
		}
	}
	for _, k := range []int{-1 << 32, top + 1, 1<<33 - 1, 1<<33 - 64, 1 << 40, math.MinInt, math.MaxInt, math.MinInt + 1, math.MaxInt - 1} {
		b, e := PutBlock(nil, k)
		noPut(t, k, b, e)
	}
}

// P5.3: what was put is read, whole and with bytes behind it; and it is put behind what there was.
func TestPutIsRead(t *testing.T) {
	tails := [][]byte{nil, {0x7f}, {0}, {0xff, 0x80}}
	ahead := []byte{9, 0x80}
	for _, f := range someFuncs() {
		b, e := PutFunc(ahead, f)
		body := behind(t, put(t, b, e), ahead)
		for _, tail := range tails {
			wantFunc(t, slices.Concat(body, tail), f, len(body), api.OK)
		}
	}
	for _, l := range someLimits() {
		b, e := PutLimits(ahead, l)
		body := behind(t, put(t, b, e), ahead)
		for _, tail := range tails {
			wantLimits(t, slices.Concat(body, tail), l, len(body), api.OK)
		}
	}
	for _, k := range someBlocks() {
		b, e := PutBlock(ahead, k)
		body := behind(t, put(t, b, e), ahead)
		for _, tail := range tails {
			wantBlock(t, slices.Concat(body, tail), k, len(body), api.OK)
		}
	}
}

func behind(t *testing.T, b, ahead []byte) []byte {
	t.Helper()
	if !bytes.HasPrefix(b, ahead) {
		t.Fatalf("% x doesn't begin with % x", b, ahead)
	}
	return b[len(ahead):]
}

// P5.3: what is read may be put, in no more bytes.
func readIsPut(t *testing.T, b []byte) {
	t.Helper()
	if f, size, e := Func(b); e == api.OK {
		again, e := PutFunc(nil, f)
		if put(t, again, e); len(again) > size {
			t.Errorf("PutFunc of Func(% x): % x", b, again)
		}
		wantFunc(t, again, f, len(again), api.OK)
	}
	if l, size, e := Limits(b); e == api.OK {
		again, e := PutLimits(nil, l)
		if put(t, again, e); len(again) > size {
			t.Errorf("PutLimits of Limits(% x): % x", b, again)
		}
		wantLimits(t, again, l, len(again), api.OK)
	}
	if k, size, e := Block(b); e == api.OK {
		again, e := PutBlock(nil, k)
		if put(t, again, e); len(again) > size {
			t.Errorf("PutBlock of Block(% x): % x", b, again)
		}
		wantBlock(t, again, k, len(again), api.OK)
	}
}

func TestReadIsPut(t *testing.T) {
	for x := range 256 {
		for y := range 256 {
			b := []byte{byte(x), byte(y)}
			readIsPut(t, b)
			readIsPut(t, append([]byte{1}, b...))
			readIsPut(t, append([]byte{0x60}, b...))
			readIsPut(t, append([]byte{0x80, 0x80}, b...))
		}
	}
}

// P5.2: neither what stands ahead nor its spare room is written or kept, and the lists handed in
// stay as they are.
func TestPutBehind(t *testing.T) {
	params, results := []int{i32, i64, i32}[:2], []int{i64}
	for _, p := range []struct {
		name string
		call func([]byte) ([]byte, api.Errno)
		tail []byte
	}{
		{"PutFunc", func(b []byte) ([]byte, api.Errno) {
			return PutFunc(b, api.FuncType{Params: params, Results: results})
		}, []byte{0x60, 2, 0x7f, 0x7e, 1, 0x7e}},
		{"PutLimits", func(b []byte) ([]byte, api.Errno) { return PutLimits(b, api.Limits{Min: 2, Capped: true, Max: 128}) }, []byte{1, 2, 0x80, 1}},
		{"PutLimits, not capped", func(b []byte) ([]byte, api.Errno) { return PutLimits(b, api.Limits{Min: 2}) }, []byte{0, 2}},
		{"PutBlock", func(b []byte) ([]byte, api.Errno) { return PutBlock(b, 64) }, []byte{0xc0, 0}},
		{"PutBlock, nothing", func(b []byte) ([]byte, api.Errno) { return PutBlock(b, api.Empty) }, []byte{0x40}},
		{"PutBlock, a value", func(b []byte) ([]byte, api.Errno) { return PutBlock(b, -1) }, []byte{0x7f}},
	} {
		room := bytes.Repeat([]byte{0x11}, 64)
		for _, size := range []int{0, 1, 30, 64} {
			got, e := p.call(room[:size])
			if e != api.OK || !bytes.Equal(got, slices.Concat(room[:size], p.tail)) {
				t.Fatalf("%s behind %d bytes: % x, %d", p.name, size, got, e)
			}
			for i := range got {
				got[i] = 0xee
			}
			clear(got[len(got):cap(got)])
			if !bytes.Equal(room, bytes.Repeat([]byte{0x11}, 64)) {
				t.Fatalf("%s behind %d bytes shares memory: % x", p.name, size, room)
			}
		}
	}
	if !slices.Equal(params[:3], []int{i32, i64, i32}) || !slices.Equal(results, []int{i64}) {
		t.Errorf("changed: %x, %x", params[:3], results)
	}
}

// P5.1: the bytes that are read are not changed, and the two lists of an answer share nothing
// with each other.
func TestReadSharesNothing(t *testing.T) {
	b := []byte{0x60, 2, 0x7f, 0x7e, 2, 0x7f, 0x7e, 0xee}
	kept := slices.Clone(b)
	f, _, _ := Func(b)
	Val(b)
	Limits(b)
	Block(b)
	if !bytes.Equal(b, kept) {
		t.Fatalf("changed: % x", b)
	}
	more := append(f.Params, 1, 2, 3)
	clear(more)
	clear(f.Params)
	if !slices.Equal(f.Results, []int{i32, i64}) {
		t.Errorf("lists share memory: %x", f.Results)
	}
	again, _, _ := Func(b)
	if !slices.Equal(again.Params, []int{i32, i64}) {
		t.Errorf("answers share memory: %x", again.Params)
	}
}

func FuzzAgainstModel(f *testing.F) {
	f.Add([]byte{0x60, 2, 0x7f, 0x7e, 1, 0x7f})
	f.Add([]byte{1, 0xff, 0xff, 0xff, 0xff, 0x0f, 0x80, 0x80, 0x80, 0x80, 0x08})
	f.Add([]byte{0xff, 0xff, 0xff, 0xff, 0x0f})
	f.Fuzz(func(t *testing.T, b []byte) {
		againstModel(t, b)
		readIsPut(t, b)
	})
}

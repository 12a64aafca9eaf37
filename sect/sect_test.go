package sect

import (
	"bytes"
	"fmt"
	"math"
	"slices"
	"strings"
	"testing"

	"trammel/api"
)

// begin is the first eight bytes, with others behind them.
func begin(b ...byte) []byte {
	return append([]byte{0, 'a', 's', 'm', 1, 0, 0, 0}, b...)
}

func brief(b []byte) string {
	if len(b) > 64 {
		return fmt.Sprintf("% x .. (%d bytes)", b[:64], len(b))
	}
	return fmt.Sprintf("% x", b)
}

func tell(l []Sect) string {
	var parts []string
	for _, s := range l[:min(len(l), 20)] {
		parts = append(parts, fmt.Sprintf("%d: %s", s.ID, brief(s.B)))
	}
	return fmt.Sprintf("%d sections [%s]", len(l), strings.Join(parts, "; "))
}

// full is a module with a section of each number, and custom ones at its ends and between.
func full() []Sect {
	l := []Sect{{0, []byte{1, 'a'}}}
	for _, id := range []int{1, 2, 3, 4, 5, 6, 7, 8, 9, 12, 10, 11} {
		l = append(l, Sect{id, bytes.Repeat([]byte{byte(0xf0 + id)}, id%4)})
	}
	l = slices.Insert(l, 7, Sect{0, []byte{0}}, Sect{0, nil})
	return append(l, Sect{0, []byte{2, 'b', 'c', 0xff}})
}

// P7.1: the examples, and sections read as they stand.
func TestSplit(t *testing.T) {
	splits(t, begin(), nil, api.OK)
	splits(t, begin(1, 1, 0), []Sect{{1, []byte{0}}}, api.OK)
	splits(t, begin(1, 1, 0, 1, 1, 0), []Sect{{1, []byte{0}}}, api.ErrForm)
	splits(t, begin(5, 0), []Sect{{5, nil}}, api.OK)
	splits(t, begin(0, 0), []Sect{{0, nil}}, api.OK)
	splits(t, begin(0, 3, 1, 0, 0, 11, 2, 12, 13), []Sect{{0, []byte{1, 0, 0}}, {11, []byte{12, 13}}}, api.OK)
	splits(t, begin(9, 0, 12, 0, 10, 0, 11, 0), []Sect{{9, nil}, {12, nil}, {10, nil}, {11, nil}}, api.OK)
	splits(t, join(full()), full(), api.OK)
}

// P7.1: the first eight bytes, cut at each place, changed at each place to each byte, and both.
// Which of the two errors it is hangs on what comes first.
func TestFirstBytes(t *testing.T) {
	splits(t, nil, nil, api.ErrShort)
	splits(t, []byte{}, nil, api.ErrShort)
	for size := range 9 {
		b := begin(1, 1, 0)[:size]
		if size < 8 {
			splits(t, b, nil, api.ErrShort)
		}
		for i := range b {
			for other := range 256 {
				changed := slices.Clone(b)
				changed[i] = byte(other)
				if changed[i] != b[i] {
					splits(t, changed, nil, api.ErrForm)
					splits(t, append(changed, 1, 1, 0), nil, api.ErrForm)
				}
			}
		}
	}
	splits(t, []byte("asm"), nil, api.ErrForm)
	splits(t, []byte{0, 'a', 's', 'm', 0, 0, 0, 1}, nil, api.ErrForm)
	splits(t, []byte{0, 'a', 's', 'm', 13, 0, 1, 0}, nil, api.ErrForm)
}

// P7.1: every number alone and twice, with what follows it right and wrong.
func TestNumbers(t *testing.T) {
	for i := range 256 {
		id := byte(i)
		one := []Sect{{i, []byte{7}}}
		switch {
		case i == 0:
			splits(t, begin(id, 1, 7), one, api.OK)
			splits(t, begin(id, 1, 7, id, 1, 7), append(one, one...), api.OK)
		case i <= 12:
			splits(t, begin(id, 1, 7), one, api.OK)
			splits(t, begin(id, 1, 7, id, 1, 7), one, api.ErrForm)
			splits(t, begin(id, 1, 7, 0, 0, id, 1, 7), append(one, Sect{}), api.ErrForm)
		default:
			splits(t, begin(id, 1, 7), nil, api.ErrForm)
			splits(t, begin(id, 9, 7), nil, api.ErrForm)
			splits(t, begin(id, 0x80), nil, api.ErrForm)
			splits(t, begin(id), nil, api.ErrForm)
			splits(t, begin(3, 1, 7, id, 1, 7), []Sect{{3, []byte{7}}}, api.ErrForm)
		}
	}
}

// P7.1: every number ahead of and behind every other one, and custom sections between.
func TestPairs(t *testing.T) {
	order := "abcdefghiljk" // the letter of each number, as the chapter says their order
	for a := 1; a <= 12; a++ {
		for b := 1; b <= 12; b++ {
			first, second := Sect{a, []byte{1, 2}}, Sect{b, nil}
			want, between, e := []Sect{first}, []Sect{{}, first, {}}, api.ErrForm
			if strings.IndexByte(order, byte('a'+a-1)) < strings.IndexByte(order, byte('a'+b-1)) {
				want, between, e = append(want, second), append(between, second, Sect{}), api.OK
			}
			splits(t, begin(byte(a), 2, 1, 2, byte(b), 0), want, e)
			splits(t, begin(0, 0, byte(a), 2, 1, 2, 0, 0, byte(b), 0, 0, 0), between, e)
		}
	}
}

// P7.1, P7.2: all lists of up to four numbers, so that an order is held against more than the
// number that stands just ahead.
func TestOrders(t *testing.T) {
	var grow func(l []Sect)
	grow = func(l []Sect) {
		againstModel(t, join(l))
		joins(t, l)
		for id := 0; id <= 13 && len(l) < 4; id++ {
			grow(append(slices.Clone(l), Sect{id, []byte{byte(id)}}))
		}
	}
	grow(nil)
}

// P7.1: custom sections stand at each place of a module with all the others.
func TestCustomAnywhere(t *testing.T) {
	for i := range len(full()) + 1 {
		l := slices.Insert(full(), i, Sect{0, []byte{0, 5}}, Sect{0, []byte{0xff}})
		splits(t, join(l), l, api.OK)
		joins(t, l)
	}
}

// P7.1: sizes in longer forms than needed, sizes that are none, and sizes that are too great.
func TestSizes(t *testing.T) {
	for _, c := range []struct {
		size []byte
		e    api.Errno
	}{
		{[]byte{2}, api.OK},
		{[]byte{0x82, 0}, api.OK},
		{[]byte{0x82, 0x80, 0}, api.OK},
		{[]byte{0x82, 0x80, 0x80, 0}, api.OK},
		{[]byte{0x82, 0x80, 0x80, 0x80, 0}, api.OK},
		{[]byte{0x82, 0x80, 0x80, 0x80, 0x80, 0}, api.ErrForm},
		{[]byte{0x82, 0x80, 0x80, 0x80, 0x10}, api.ErrForm},
		{[]byte{0x82, 0x80, 0x80, 0x80, 0x40}, api.ErrForm},
		{[]byte{0xff, 0xff, 0xff, 0xff, 0x7f}, api.ErrForm},
		{[]byte{0xff, 0xff, 0xff, 0xff, 0xff}, api.ErrForm},
		{[]byte{3}, api.ErrShort},
		{[]byte{0x83, 0}, api.ErrShort},
		{[]byte{0x7f}, api.ErrShort},
		{[]byte{0x82, 1}, api.ErrShort},
		{[]byte{0x82, 0x80, 4}, api.ErrShort},
		{[]byte{0xff, 0xff, 0xff, 0xff, 0x07}, api.ErrShort},
		{[]byte{0x80, 0x80, 0x80, 0x80, 0x08}, api.ErrShort},
		{[]byte{0x82, 0x80, 0x80, 0x80, 0x08}, api.ErrShort},
		{[]byte{0xff, 0xff, 0xff, 0xff, 0x0f}, api.ErrShort},
	} {
		for _, id := range []byte{0, 7, 12} {
			b := append(begin(2, 1, 9, id), append(slices.Clone(c.size), 5, 6)...)
			want := []Sect{{2, []byte{9}}}
			if c.e == api.OK {
				want = append(want, Sect{int(id), []byte{5, 6}})
			}
			splits(t, b, want, c.e)
		}
	}
	splits(t, begin(4, 0x80, 0x80, 0), []Sect{{4, nil}}, api.OK)
	splits(t, begin(4, 0x80), nil, api.ErrShort)
	splits(t, begin(4, 0xff, 0xff, 0xff, 0xff), nil, api.ErrShort)
	splits(t, begin(4, 0xff, 0xff, 0xff, 0xff, 0xff), nil, api.ErrForm)
}

// P7.1: of a section the number is told ahead of its size, and this ahead of its bytes.
func TestFirstErrorOfSection(t *testing.T) {
	two := []Sect{{3, nil}, {6, []byte{1}}}
	lead := begin(3, 0, 6, 1, 1)
	for _, c := range []struct {
		tail []byte
		e    api.Errno
	}{
		{[]byte{6}, api.ErrForm},
		{[]byte{6, 0x80}, api.ErrForm},
		{[]byte{2, 5}, api.ErrForm},
		{[]byte{13, 5}, api.ErrForm},
		{[]byte{12}, api.ErrShort},
		{[]byte{12, 0x80}, api.ErrShort},
		{[]byte{12, 5}, api.ErrShort},
		{[]byte{12, 5, 6, 0, 13, 0}, api.ErrShort},
		{[]byte{12, 0x80, 0x80, 0x80, 0x80, 0x80}, api.ErrForm},
		{[]byte{0}, api.ErrShort},
		{[]byte{0, 1}, api.ErrShort},
	} {
		splits(t, append(slices.Clone(lead), c.tail...), two, c.e)
	}
}

// P7.1: bytes that end at each place, and each byte of them changed: the sections ahead of the
// first error are told.
func TestCutsAndChanges(t *testing.T) {
	b := join(full())
	for cut := range b {
		againstModel(t, b[:cut])
	}
	for i := range b {
		for other := range 256 {
			changed := slices.Clone(b)
			changed[i] = byte(other)
			againstModel(t, changed)
		}
	}
	l := full()
	for i := range l {
		splits(t, append(join(l[:i]), byte(l[i].ID)), l[:i], api.ErrShort)
		splits(t, append(join(l[:i]), 13), l[:i], api.ErrForm)
	}
}

// P7.1: all tails of up to two bytes, and of three and four from bytes at which something changes.
func TestShortTails(t *testing.T) {
	for a := range 256 {
		againstModel(t, begin(byte(a)))
		for b := range 256 {
			againstModel(t, begin(byte(a), byte(b)))
		}
	}
	edges := []byte{0, 1, 2, 9, 10, 11, 12, 13, 0x7f, 0x80, 0x81, 0xff}
	for _, a := range edges {
		for _, b := range edges {
			for _, c := range edges {
				againstModel(t, begin(a, b, c))
				for _, d := range edges {
					againstModel(t, begin(a, b, c, d))
				}
			}
		}
	}
}

// P7.1: 65,536 bytes are split; of one more no section is told, whatever they are.
func TestSplitLong(t *testing.T) {
	const most = 65536
	body := bytes.Repeat([]byte{3}, most)
	b := append(begin(7, 0xf4, 0xff, 3), body[:most-12]...)
	splits(t, b, []Sect{{7, body[:most-12]}}, api.OK)
	splits(t, append(slices.Clone(b), 0), nil, api.ErrLong)
	splits(t, append(begin(7, 0xf5, 0xff, 3), body[:most-11]...), nil, api.ErrLong)
	splits(t, b[:most-1], nil, api.ErrShort)
	customs := append(begin(), make([]byte, most-8)...)
	splits(t, customs, make([]Sect, most/2-4), api.OK)
	splits(t, append(customs, 0), nil, api.ErrLong)
	splits(t, append(customs[:most-2:most-2], 13, 0), make([]Sect, most/2-5), api.ErrForm)
	splits(t, make([]byte, most), nil, api.ErrForm)
	splits(t, make([]byte, most+1), nil, api.ErrLong)
	splits(t, make([]byte, 1<<24), nil, api.ErrLong)
}

// P7.2: the bytes of lists, written out, and empty lists.
func TestJoin(t *testing.T) {
	for _, c := range []struct {
		l []Sect
		b []byte
	}{
		{nil, begin()},
		{[]Sect{}, begin()},
		{[]Sect{{1, []byte{0}}}, begin(1, 1, 0)},
		{[]Sect{{1, nil}}, begin(1, 0)},
		{[]Sect{{1, []byte{}}}, begin(1, 0)},
		{[]Sect{{}}, begin(0, 0)},
		{[]Sect{{}, {0, []byte{0xff}}}, begin(0, 0, 0, 1, 0xff)},
		{[]Sect{{2, []byte{1}}, {}, {3, nil}}, begin(2, 1, 1, 0, 0, 3, 0)},
		{[]Sect{{9, nil}, {12, []byte{1}}, {10, nil}, {11, []byte{2, 3}}}, begin(9, 0, 12, 1, 1, 10, 0, 11, 2, 2, 3)},
		{[]Sect{{8, make([]byte, 127)}}, begin(append([]byte{8, 127}, make([]byte, 127)...)...)},
		{[]Sect{{8, make([]byte, 128)}}, begin(append([]byte{8, 0x80, 1}, make([]byte, 128)...)...)},
		{[]Sect{{8, make([]byte, 16383)}}, begin(append([]byte{8, 0xff, 0x7f}, make([]byte, 16383)...)...)},
		{[]Sect{{8, make([]byte, 16384)}}, begin(append([]byte{8, 0x80, 0x80, 1}, make([]byte, 16384)...)...)},
		{full(), join(full())},
	} {
		if b, e := Join(c.l); !bytes.Equal(b, c.b) || e != api.OK {
			t.Errorf("Join(%s) = %s, %d; want %s", tell(c.l), brief(b), e, brief(c.b))
		}
	}
}

func refuses(t *testing.T, l []Sect, e api.Errno) {
	t.Helper()
	if b, f := Join(l); len(b) != 0 || f != e {
		t.Errorf("Join(%s) = %s, %d; want %d", tell(l), brief(b), f, e)
	}
}

// P7.2: numbers that are none, and numbers out of order, wherever they stand.
func TestJoinRefuses(t *testing.T) {
	for _, id := range []int{-1, -2, -12, -256, -255, 13, 14, 255, 256, 257, 268, 1 << 32, 1<<32 + 1, math.MaxInt, math.MinInt, math.MinInt + 1} {
		refuses(t, []Sect{{id, nil}}, api.ErrForm)
		refuses(t, []Sect{{id, []byte{0}}}, api.ErrForm)
		refuses(t, []Sect{{}, {1, nil}, {id, nil}}, api.ErrForm)
		refuses(t, []Sect{{id, nil}, {11, nil}}, api.ErrForm)
		refuses(t, append(full(), Sect{id, nil}), api.ErrForm)
	}
	for a := 1; a <= 12; a++ {
		refuses(t, []Sect{{a, nil}, {a, nil}}, api.ErrForm)
		refuses(t, []Sect{{a, nil}, {}, {a, nil}}, api.ErrForm)
		refuses(t, append(full(), Sect{a, nil}), api.ErrForm)
		for b := 1; b <= 12; b++ {
			joins(t, []Sect{{a, []byte{1}}, {b, []byte{2}}})
			joins(t, []Sect{{}, {a, nil}, {0, []byte{3}}, {b, nil}, {}})
		}
	}
	refuses(t, []Sect{{3, nil}, {2, nil}}, api.ErrForm)
	refuses(t, []Sect{{10, nil}, {12, nil}}, api.ErrForm)
	refuses(t, []Sect{{11, nil}, {12, nil}}, api.ErrForm)
	refuses(t, []Sect{{12, nil}, {9, nil}}, api.ErrForm)
}

// P7.2: 65,536 bytes are joined, one more is too many, and an order that is wrong behind
// them is told all the same.
func TestJoinLong(t *testing.T) {
	const most = 65536
	room := make([]byte, 1<<21)
	joins(t, []Sect{{7, room[:most-13]}})
	joins(t, []Sect{{7, room[:most-12]}})
	joins(t, []Sect{{7, room[:most-14]}, {10, nil}})
	joins(t, []Sect{{7, room[:most-17]}, {}, {9, []byte{1}}})
	joins(t, make([]Sect, most/2-5))
	joins(t, make([]Sect, most/2-4))
	if b, _ := Join([]Sect{{7, room[:most-12]}}); len(b) != most {
		t.Errorf("%d bytes", len(b))
	}
	if b, _ := Join(make([]Sect, most/2-4)); len(b) != most {
		t.Errorf("%d bytes", len(b))
	}
	for _, l := range [][]Sect{
		{{7, room[:most-11]}},
		{{7, room[:most]}},
		{{7, room}},
		{{7, room[:most-12]}, {}},
		{{7, room[:most-13]}, {}},
		{{}, {7, room[:most-12]}},
		{{7, room[:most-14]}, {10, []byte{1}}},
		{{1, room[:most/2]}, {2, room[:most/2]}},
		{{1, room}, {2, room}, {3, room}},
		append(make([]Sect, most/2-4), Sect{0, []byte{1}}),
		make([]Sect, most/2-3),
		make([]Sect, 1<<20),
		slices.Repeat([]Sect{{0, room}}, 10000),
	} {
		refuses(t, l, api.ErrLong)
		refuses(t, append(slices.Clone(l), Sect{13, nil}), api.ErrForm)
		refuses(t, append([]Sect{{-1, nil}}, l...), api.ErrForm)
		refuses(t, append(slices.Clone(l), Sect{11, nil}, Sect{10, nil}), api.ErrForm)
	}
}

// P7.3: what a custom section's bytes say.
func TestCustom(t *testing.T) {
	name := strings.Repeat("n", 64)
	for _, c := range []struct {
		b    []byte
		want api.Custom
	}{
		{[]byte{0}, api.Custom{}},
		{[]byte{0, 7}, api.Custom{Bytes: []byte{7}}},
		{[]byte{0x80, 0}, api.Custom{}},
		{[]byte{0x80, 0x80, 0x80, 0x80, 0, 0}, api.Custom{Bytes: []byte{0}}},
		{[]byte{1, 'x'}, api.Custom{Name: "x"}},
		{[]byte{1, 'x', 7, 8}, api.Custom{Name: "x", Bytes: []byte{7, 8}}},
		{[]byte{1, 'x', 0xff}, api.Custom{Name: "x", Bytes: []byte{0xff}}},
		{[]byte{0x82, 0, 0xc3, 0xa9, 1}, api.Custom{Name: "\xc3\xa9", Bytes: []byte{1}}},
		{append([]byte{64}, name...), api.Custom{Name: name}},
		{append([]byte{64}, name+"m"...), api.Custom{Name: name, Bytes: []byte{'m'}}},
		{append([]byte{1, 'x'}, make([]byte, 1<<17)...), api.Custom{Name: "x", Bytes: make([]byte, 1<<17)}},
	} {
		says(t, c.b, c.want, api.OK)
	}
}

func says(t *testing.T, b []byte, want api.Custom, e api.Errno) {
	t.Helper()
	c, f := Custom(b)
	if c.Name != want.Name || !bytes.Equal(c.Bytes, want.Bytes) || f != e {
		t.Errorf("Custom(%s) = %q, %s, %d; want %q, %s, %d", brief(b), c.Name, brief(c.Bytes), f, want.Name, brief(want.Bytes), e)
	}
}

// P7.3: each of utf.Name's errors, beside which nothing is told.
func TestCustomRefused(t *testing.T) {
	long := strings.Repeat("n", 65)
	for _, c := range []struct {
		b []byte
		e api.Errno
	}{
		{nil, api.ErrShort},
		{[]byte{}, api.ErrShort},
		{[]byte{0x80}, api.ErrShort},
		{[]byte{1}, api.ErrShort},
		{[]byte{3, 'x', 'y'}, api.ErrShort},
		{[]byte{2, 0xff}, api.ErrShort},
		{[]byte{0xff, 0xff, 0xff, 0xff, 0x0f, 'x'}, api.ErrShort},
		{[]byte{0x80, 0x80, 0x80, 0x80, 0x80, 0}, api.ErrForm},
		{[]byte{0x80, 0x80, 0x80, 0x80, 0x10}, api.ErrForm},
		{[]byte{1, 0xff, 7}, api.ErrForm},
		{[]byte{1, 0xc3, 0xa9}, api.ErrForm},
		{[]byte{2, 0xc0, 0x80, 7}, api.ErrForm},
		{append([]byte{65}, long[1:]+"\xff"...), api.ErrForm},
		{append([]byte{65}, long[1:]...), api.ErrShort},
		{append([]byte{65}, long...), api.ErrLong},
		{append([]byte{65}, long+"more"...), api.ErrLong},
		{append([]byte{0xc1, 0}, long...), api.ErrLong},
	} {
		says(t, c.b, api.Custom{}, c.e)
	}
}

// P7.3: bytes of a custom section, and each of utf.PutName's errors.
func TestPutCustom(t *testing.T) {
	name := strings.Repeat("n", 64)
	for _, c := range []struct {
		c api.Custom
		b []byte
		e api.Errno
	}{
		{api.Custom{}, []byte{0}, api.OK},
		{api.Custom{Bytes: []byte{}}, []byte{0}, api.OK},
		{api.Custom{Bytes: []byte{7}}, []byte{0, 7}, api.OK},
		{api.Custom{Name: "x"}, []byte{1, 'x'}, api.OK},
		{api.Custom{Name: "x", Bytes: []byte{7, 8}}, []byte{1, 'x', 7, 8}, api.OK},
		{api.Custom{Name: "\xc3\xa9", Bytes: []byte{0xff}}, []byte{2, 0xc3, 0xa9, 0xff}, api.OK},
		{api.Custom{Name: name}, append([]byte{64}, name...), api.OK},
		{api.Custom{Name: name, Bytes: []byte{9}}, append([]byte{64}, name+"\t"...), api.OK},
		{api.Custom{Name: "x", Bytes: make([]byte, 1<<17)}, append([]byte{1, 'x'}, make([]byte, 1<<17)...), api.OK},
		{api.Custom{Name: "\xff", Bytes: []byte{7}}, nil, api.ErrForm},
		{api.Custom{Name: "\xc3"}, nil, api.ErrForm},
		{api.Custom{Name: "\xed\xa0\x80"}, nil, api.ErrForm},
		{api.Custom{Name: name + "\xff", Bytes: []byte{7}}, nil, api.ErrForm},
		{api.Custom{Name: name + "n"}, nil, api.ErrLong},
		{api.Custom{Name: name + "n", Bytes: []byte{7}}, nil, api.ErrLong},
		{api.Custom{Name: strings.Repeat(name, 40)}, nil, api.ErrLong},
	} {
		b, e := PutCustom(c.c)
		if !bytes.Equal(b, c.b) || e != c.e {
			t.Errorf("PutCustom(%q, %s) = %s, %d; want %s, %d", c.c.Name, brief(c.c.Bytes), brief(b), e, brief(c.b), c.e)
		}
		if e == api.OK {
			says(t, b, c.c, api.OK)
		}
	}
}

// P7.4: lists of every kind are joined and split as they were: sections of every length around
// those at which a size needs a byte more, in lists that leave some numbers out.
func TestJoinedIsSplit(t *testing.T) {
	lengths := []int{0, 1, 2, 63, 64, 127, 128, 129, 255, 256, 2000, 16383, 16384, 16385, 30000}
	pattern := make([]byte, 30000)
	for i := range pattern {
		pattern[i] = byte(i * 7)
	}
	n := uint64(1)
	for range 3000 {
		var l []Sect
		for _, id := range []int{0, 1, 2, 3, 0, 0, 4, 5, 6, 7, 8, 9, 12, 10, 0, 11, 0} {
			n = n*6364136223846793005 + 1442695040888963407
			if n>>63 == 1 {
				l = append(l, Sect{id, pattern[:lengths[n>>32%uint64(len(lengths))]]})
			}
		}
		joins(t, l)
	}
}

// Neither what is handed in nor its spare room is changed or kept by Split and Custom, and no
// two sections share memory.
func TestSplitSharesNothing(t *testing.T) {
	before := append(join(full()), 0xaa, 0xbb, 0xcc)
	room := slices.Clone(before)
	l, _ := Split(room[:len(room)-3])
	for i := range l {
		whole := l[i].B[:cap(l[i].B)]
		for k := range whole {
			whole[k] = 0xee
		}
		for k, other := range l[i+1:] {
			if !bytes.Equal(other.B, full()[i+1+k].B) {
				t.Fatalf("sections %d and %d share memory", i, i+1+k)
			}
		}
	}
	if !bytes.Equal(room, before) {
		t.Fatalf("Split shares memory: % x", room)
	}
	l, _ = Split(room[:len(room)-3])
	clear(room)
	if !same(l, full()) {
		t.Fatalf("Split keeps memory: %s", tell(l))
	}
	b := []byte{1, 'x', 7, 8, 9}
	c, _ := Custom(b[:4])
	clear(c.Bytes[:cap(c.Bytes)])
	if !bytes.Equal(b, []byte{1, 'x', 7, 8, 9}) {
		t.Fatalf("Custom shares memory: % x", b)
	}
	c, _ = Custom(b[:4])
	clear(b)
	if c.Name != "x" || !bytes.Equal(c.Bytes, []byte{7, 8}) {
		t.Fatalf("Custom keeps memory: %q, % x", c.Name, c.Bytes)
	}
}

// Beside an error, too, the sections that are told are new memory.
func TestSplitSharesNothingBesideError(t *testing.T) {
	b := begin(1, 2, 5, 6, 13)
	l, e := Split(b)
	if e != api.ErrForm || len(l) != 1 {
		t.Fatalf("%s, %d", tell(l), e)
	}
	clear(l[0].B[:cap(l[0].B)])
	if !bytes.Equal(b, begin(1, 2, 5, 6, 13)) {
		t.Fatalf("% x", b)
	}
}

// The same of Join and PutCustom, and of two answers of one call made twice.
func TestJoinSharesNothing(t *testing.T) {
	room := bytes.Repeat([]byte{0x11}, 64)
	list := []Sect{{1, room[:3]}, {2, room[3:20]}, {3, room[64:]}, {77, room}}
	kept := slices.Clone(list)
	spoil := func(b []byte) {
		whole := b[:cap(b)]
		for i := range whole {
			whole[i] = 0xee
		}
	}
	for _, l := range [][]Sect{nil, list[:1], list[:2], list[:3]} {
		b, _ := Join(l)
		twin, _ := Join(l)
		want := slices.Clone(twin)
		spoil(b)
		if !bytes.Equal(twin, want) || !bytes.Equal(room, bytes.Repeat([]byte{0x11}, 64)) || !same(list, kept) {
			t.Fatalf("Join(%s) shares memory", tell(l))
		}
	}
	for _, size := range []int{0, 1, 63, 64} {
		c := api.Custom{Name: "x", Bytes: room[:size]}
		b, _ := PutCustom(c)
		spoil(b)
		b, _ = PutCustom(c)
		if !bytes.Equal(room, bytes.Repeat([]byte{0x11}, 64)) || !bytes.Equal(b[2:], room[:size]) {
			t.Fatalf("PutCustom with %d bytes shares memory", size)
		}
	}
}

func FuzzSplit(f *testing.F) {
	f.Add(join(full()))
	f.Add(begin(1, 1, 0, 1, 1, 0))
	f.Add(begin(12, 0x82, 0, 5, 6))
	f.Fuzz(func(t *testing.T, b []byte) {
		againstModel(t, b)
		againstModel(t, begin(b...))
		if l, _ := Split(begin(b...)); inOrder(l) {
			joins(t, l)
		} else {
			t.Errorf("%s", tell(l))
		}
		c, e := Custom(b)
		if e != api.OK {
			says(t, b, api.Custom{}, e)
			return
		}
		if again, e := PutCustom(c); e != api.OK || !bytes.HasSuffix(b, again[1:]) {
			t.Errorf("PutCustom(%q, %s) = %s, %d", c.Name, brief(c.Bytes), brief(again), e)
		}
	})
}

package inst_test

import (
	"math"
	"slices"
	"testing"

	"trammel/api"
	"trammel/inst"
)

// numbered list, no two of whose first 256 are the same.
func numbered[T byte | int](first T, many int) []T {
	var l []T
	for i := range many {
		l = append(l, first+T(i))
	}
	return l
}

func some() api.Store {
	return api.Store{Memory: numbered[byte](100, 6), Cap: 2, Table: numbered(10, 5), Globals: []uint64{7, 8}, Elems: []bool{true, false}, Datas: []bool{false}}
}

// laid holds Lay and Put, of lists and stores of as many entries as bytes, against the model.
func laid(t *testing.T, many, long int, at, from, n uint64) ([]int, bool) {
	t.Helper()
	s := some()
	s.Table, s.Memory = numbered(10, many), numbered[byte](100, many)
	table, ok := modelLay(s.Table, numbered(50, long), at, from, n)
	memory, _ := modelLay(s.Memory, numbered[byte](200, long), at, from, n)
	var want, want2 api.Store
	if ok {
		want, want2 = s, s
		want.Table, want2.Memory = table, memory
	}
	if got, is := inst.Lay(s, numbered(50, long), at, from, n); is != ok || !same(got, want) {
		t.Errorf("Lay of %d over %d (%d, %d, %d): %+v, %v", long, many, at, from, n, got, is)
	}
	if got, is := inst.Put(s, numbered[byte](200, long), at, from, n); is != ok || !same(got, want2) {
		t.Errorf("Put of %d over %d (%d, %d, %d): %+v, %v", long, many, at, from, n, got, is)
	}
	return table, ok
}

// P13.2: what is laid where, at each end and beyond, of 0 entries too.
func TestLaid(t *testing.T) {
	for _, c := range []struct {
		many, long  int
		at, from, n uint64
		want        []int // nil: they don't fit
	}{
		{5, 3, 0, 0, 3, []int{50, 51, 52, 13, 14}}, {5, 3, 2, 0, 3, []int{10, 11, 50, 51, 52}}, {5, 3, 3, 0, 3, nil}, {5, 3, 1, 1, 2, []int{10, 51, 52, 13, 14}}, {5, 3, 1, 2, 1, []int{10, 52, 12, 13, 14}}, {5, 3, 1, 2, 2, nil}, {5, 3, 4, 0, 1, []int{10, 11, 12, 13, 50}}, {5, 3, 4, 0, 2, nil}, {5, 3, 0, 0, 4, nil},
		{5, 3, 0, 0, 0, numbered(10, 5)}, {5, 3, 5, 0, 0, numbered(10, 5)}, {5, 3, 6, 0, 0, nil}, {5, 3, 0, 3, 0, numbered(10, 5)}, {5, 3, 0, 4, 0, nil}, {5, 3, 5, 3, 0, numbered(10, 5)}, {5, 3, 6, 4, 0, nil}, {5, 3, 5, 0, 1, nil}, {5, 3, 0, 3, 1, nil},
		{5, 5, 0, 0, 5, numbered(50, 5)}, {5, 6, 0, 1, 5, numbered(51, 5)}, {5, 6, 0, 0, 6, nil}, {3, 9, 0, 6, 3, numbered(56, 3)}, {3, 9, 0, 7, 3, nil}, {1, 1, 0, 0, 1, []int{50}},
		{5, 0, 0, 0, 0, numbered(10, 5)}, {5, 0, 5, 0, 0, numbered(10, 5)}, {5, 0, 0, 0, 1, nil}, {5, 0, 0, 1, 0, nil},
		{5, 3, math.MaxUint64, 0, 1, nil}, {5, 3, math.MaxUint64, 0, 2, nil}, {5, 3, math.MaxUint64, 0, 0, nil}, {5, 3, 0, math.MaxUint64, 1, nil}, {5, 3, 0, math.MaxUint64, 2, nil}, {5, 3, 0, 0, math.MaxUint64, nil}, {5, 3, 1, 1, math.MaxUint64, nil}, {5, 3, 2, 2, math.MaxUint64 - 1, nil}, {5, 3, 1 << 63, 0, 1 << 63, nil}, {5, 3, 0, 1 << 63, 1 << 63, nil}, {5, 3, 1 << 63, 1 << 63, 1 << 63, nil}, {5, 3, math.MaxUint64 - 1, math.MaxUint64 - 1, 2, nil}, {5, 3, 1 << 32, 0, 1, nil}, {5, 3, 0, 1 << 32, 1, nil}, {5, 3, 0, 0, 1<<32 + 1, nil}, {5, 3, 1<<32 + 1, 1<<32 + 1, 1 << 32, nil},
	} {
		got, ok := laid(t, c.many, c.long, c.at, c.from, c.n)
		if ok != (c.want != nil) || !slices.Equal(got, c.want) {
			t.Errorf("of %d over %d (%d, %d, %d): %v, %v; want %v", c.long, c.many, c.at, c.from, c.n, got, ok, c.want)
		}
	}
}

// P13.2: all small numbers, and great ones whose sums go round, each with each.
func TestLaidAll(t *testing.T) {
	numbers := []uint64{0, 1, 2, 3, 4, 5, 1<<32 - 1, 1 << 32, 1<<63 - 1, 1 << 63, math.MaxUint64 - 3, math.MaxUint64 - 2, math.MaxUint64 - 1, math.MaxUint64}
	met := 0
	for many := range 5 {
		for long := range 5 {
			for _, at := range numbers {
				for _, from := range numbers {
					for _, n := range numbers {
						if _, ok := laid(t, many, long, at, from, n); ok {
							met++
						}
					}
				}
			}
		}
	}
	if met < 300 {
		t.Error(met)
	}
}

// P13.2: Lay takes numbers as they are, Put bytes; neither looks at the other's list; nor is what is
// laid from the store itself laid twice.
func TestLaidAsIs(t *testing.T) {
	s, ok := inst.Lay(some(), []int{-1, math.MinInt, math.MaxInt, 64}, 1, 0, 4)
	if want := []int{10, -1, math.MinInt, math.MaxInt, 64}; !ok || !slices.Equal(s.Table, want) {
		t.Error(s, ok)
	}
	s, ok = inst.Put(some(), []byte{0, 255, 128}, 3, 0, 3)
	if want := []byte{100, 101, 102, 0, 255, 128}; !ok || !slices.Equal(s.Memory, want) {
		t.Error(s, ok)
	}
	bare := api.Store{Table: []int{1}}
	if s, ok := inst.Put(bare, nil, 0, 0, 0); !ok || !same(s, bare) {
		t.Error(s, ok)
	}
	if s, ok := inst.Put(bare, []byte{1}, 0, 0, 1); ok || s.Table != nil {
		t.Error(s, ok)
	}
	if s, ok := inst.Lay(api.Store{Memory: []byte{1}}, []int{1}, 0, 0, 1); ok || s.Memory != nil {
		t.Error(s, ok)
	}
	own := some()
	if s, ok := inst.Lay(own, own.Table, 1, 0, 4); !ok || !slices.Equal(s.Table, []int{10, 10, 11, 12, 13}) {
		t.Error(s, ok)
	}
	if s, ok := inst.Put(own, own.Memory, 1, 0, 5); !ok || !slices.Equal(s.Memory, []byte{100, 100, 101, 102, 103, 104}) {
		t.Error(s, ok)
	}
	if !same(own, some()) {
		t.Error(own)
	}
}

// P13.2: up to the end of the greatest memory and table, and in ones beyond these.
func TestLaidFar(t *testing.T) {
	for _, pages := range []int{1, 4, 5} {
		end := uint64(pages) * 65536
		s := api.Store{Memory: make([]byte, end), Cap: pages}
		got, ok := inst.Put(s, []byte{1, 2}, end-2, 0, 2)
		s.Memory[end-2], s.Memory[end-1] = 1, 2
		if !ok || !same(got, s) {
			t.Error(pages, ok)
		}
		if _, ok := inst.Put(s, []byte{1, 2}, end-1, 0, 2); ok {
			t.Error(pages)
		}
		if got, ok := inst.Put(s, s.Memory, 0, 0, end); !ok || !same(got, s) {
			t.Error(pages)
		}
	}
	table := api.Store{Table: numbered(0, 1000)}
	if got, ok := inst.Lay(table, []int{7}, 999, 0, 1); !ok || got.Table[999] != 7 || len(got.Table) != 1000 {
		t.Error(ok)
	}
	if _, ok := inst.Lay(table, []int{7}, 1000, 0, 1); ok {
		t.Error("beyond")
	}
}

// grows holds Grow against the model and what is written out: how many there were, or none.
func grows(t *testing.T, s api.Store, n uint64, ok bool, want uint64) {
	t.Helper()
	got, were := inst.Grow(s, n, ok)
	model, wereThen := modelGrow(s, n, ok)
	if were != want || wereThen != want || !same(got, model) {
		t.Errorf("Grow of %d bytes, Cap %d, by %d, %v: %d bytes, %d; want %d bytes, %d, %d", len(s.Memory), s.Cap, n, ok, len(got.Memory), were, len(model.Memory), wereThen, want)
	}
	if more := len(got.Memory) - len(s.Memory); want == none && more != 0 || want != none && more != int(n)*65536 {
		t.Errorf("%d more", more)
	}
}

// pages that are full, with a Cap.
func pages(n, most int) api.Store {
	s := some()
	s.Memory, s.Cap = slices.Repeat([]byte{9}, n*65536), most
	return s
}

// P13.3: to Cap and to 4 pages and beyond, by 0, by numbers beyond 2^32, and where it is not ok.
func TestGrow(t *testing.T) {
	for _, c := range []struct {
		were, most int
		n, want    uint64
	}{
		{1, 3, 2, 1}, {1, 3, 3, none}, {1, 3, 0, 1}, {1, 3, 1, 1}, {0, 4, 4, 0}, {0, 4, 5, none}, {0, 4, 0, 0}, {4, 4, 0, 4}, {4, 4, 1, none}, {3, 4, 1, 3}, {3, 4, 2, none}, {2, 2, 0, 2}, {2, 2, 1, none}, {0, 0, 0, 0}, {0, 0, 1, none}, {0, 1, 1, 0}, {0, 1, 2, none},
		{1, 5, 3, 1}, {1, 5, 4, none}, {0, 65536, 4, 0}, {0, 65536, 5, none}, {2, math.MaxInt, 2, 2}, {2, math.MaxInt, 3, none}, {4, math.MaxInt, 0, 4}, {5, math.MaxInt, 0, none}, {5, 5, 0, none}, {5, 9, 1, none}, {5, 4, 0, none},
		{2, 1, 0, none}, {2, 1, 1, none}, {1, 0, 0, none}, {1, -1, 0, none}, {0, -1, 0, none}, {0, math.MinInt, 0, none}, {0, math.MinInt, 1, none}, {3, math.MinInt, math.MaxUint64, none}, {4, 3, 0, none}, {4, 3, math.MaxUint64, none},
	} {
		grows(t, pages(c.were, c.most), c.n, true, c.want)
		grows(t, pages(c.were, c.most), c.n, false, none)
	}
	for _, n := range []uint64{5, 65535, 65536, 1<<31 - 1, 1 << 31, 1<<32 - 1, 1 << 32, 1<<32 + 1, 1 << 48, 1<<48 + 1, 1<<63 - 1, 1 << 63, 1<<63 + 1, math.MaxUint64 - 1, math.MaxUint64} {
		for _, were := range []int{0, 1, 4, 5} {
			for _, most := range []int{math.MinInt, 0, 4, 65536, math.MaxInt} {
				grows(t, pages(were, most), n, true, none)
				grows(t, pages(were, most), n, false, none)
			}
		}
	}
}

// P13.3: of a memory that is no whole number of pages the whole ones count, and all bytes stay.
func TestGrowParts(t *testing.T) {
	for _, c := range []struct {
		long, most int
		n, want    uint64
	}{
		{1, 4, 0, 0}, {1, 4, 1, 0}, {1, 4, 4, 0}, {1, 4, 5, none}, {65535, 4, 1, 0}, {65535, 0, 0, 0}, {65535, 0, 1, none}, {65537, 4, 0, 1}, {65537, 4, 3, 1}, {65537, 4, 4, none}, {131071, 2, 1, 1}, {131071, 2, 2, none}, {131072, 2, 0, 2}, {131072, 2, 1, none}, {262143, 4, 1, 3}, {262143, 4, 2, none}, {262145, 4, 0, 4}, {262145, 4, 1, none}, {327679, 9, 0, 4}, {327679, 9, 1, none}, {327680, 9, 0, none},
	} {
		s := some()
		s.Memory, s.Cap = numbered[byte](1, c.long), c.most
		grows(t, s, c.n, true, c.want)
		grows(t, s, c.n, false, none)
	}
}

// P13.3: what there was stays where it was; what is new is 0; and all else is as it was.
func TestGrown(t *testing.T) {
	s := some()
	s.Memory, s.Cap = numbered[byte](3, 65536), 3
	got, _ := inst.Grow(s, 2, true)
	want := s
	want.Memory = append(numbered[byte](3, 65536), make([]byte, 131072)...)
	if !same(got, want) || got.Cap != 3 {
		t.Error(len(got.Memory), got.Cap)
	}
	if got, n := inst.Grow(s, 3, true); n != none || !same(got, s) {
		t.Error(len(got.Memory), n)
	}
	twice, n := inst.Grow(got, 0, true)
	if n != 3 || !same(twice, want) {
		t.Error(n)
	}
}

package inst_test

import (
	"math"
	"testing"

	"trammel/api"
)

const memoryEnd = 65536

// holder of segments: six functions, of which two are from outside, a table of 6, a memory of a page.
func holder(elems []api.Elem, datas []api.Data) api.Module {
	return api.Module{
		Types: []api.FuncType{{}}, Imports: []api.Import{{}, {}}, Funcs: make([]api.Func, 4),
		Tables: []api.Limits{capped(6, 64)}, Mems: []api.Limits{capped(1, 2)},
		Elems: elems, Datas: datas,
	}
}

func elem(offset int64, f ...int) api.Elem { return api.Elem{Offset: at(offset), Funcs: f} }

func data(offset int64, b ...byte) api.Data { return api.Data{Offset: at(offset), Bytes: b} }

func held(elems []bool, datas []bool, table ...int) api.Store {
	return api.Store{Cap: 2, Table: table, Elems: elems, Datas: datas}
}

// P13.1: element segments of each mode, laid in order, over each other, at the end and of nothing.
func TestElems(t *testing.T) {
	yes, no := []bool{true}, []bool{false}
	for _, c := range []struct {
		l    []api.Elem
		want api.Store
	}{
		{nil, held(nil, nil, -1, -1, -1, -1, -1, -1)},
		{[]api.Elem{elem(0, 0, 1, 2, 3, 4, 5)}, held(yes, nil, 0, 1, 2, 3, 4, 5)},
		{[]api.Elem{elem(2, 5, 5)}, held(yes, nil, -1, -1, 5, 5, -1, -1)},
		{[]api.Elem{elem(5, 0)}, held(yes, nil, -1, -1, -1, -1, -1, 0)},
		{[]api.Elem{elem(6)}, held(yes, nil, -1, -1, -1, -1, -1, -1)},
		{[]api.Elem{elem(0)}, held(yes, nil, -1, -1, -1, -1, -1, -1)},
		{[]api.Elem{elem(1<<32+1, 3)}, held(yes, nil, -1, 3, -1, -1, -1, -1)},
		{[]api.Elem{elem(1, 1, 2, 3), elem(2, 4, -1)}, held([]bool{true, true}, nil, -1, 1, 4, -1, -1, -1)},
		{[]api.Elem{elem(2, 4, -1), elem(1, 1, 2, 3)}, held([]bool{true, true}, nil, -1, 1, 2, 3, -1, -1)},
		{[]api.Elem{{Mode: api.Passive, Funcs: []int{1}}}, held(no, nil, -1, -1, -1, -1, -1, -1)},
		{[]api.Elem{{Mode: api.Declared, Funcs: []int{1}}}, held(yes, nil, -1, -1, -1, -1, -1, -1)},
		{[]api.Elem{{Mode: api.Passive, Offset: at(0), Funcs: []int{1, 1, 1, 1, 1, 1, 1}}}, held(no, nil, -1, -1, -1, -1, -1, -1)},
		{[]api.Elem{{Mode: api.Declared, Offset: at(99), Funcs: []int{1}}}, held(yes, nil, -1, -1, -1, -1, -1, -1)},
		{[]api.Elem{{Mode: 3, Funcs: []int{1}}, {Mode: -1}, {Mode: math.MaxInt, Offset: at(0), Funcs: []int{1}}, {Mode: math.MinInt}}, held([]bool{true, true, true, true}, nil, -1, -1, -1, -1, -1, -1)},
		{[]api.Elem{elem(0, 1), {Mode: api.Passive, Funcs: []int{2}}, elem(1, 3), {Mode: api.Declared}, elem(2)}, held([]bool{true, false, true, true, true}, nil, 1, 3, -1, -1, -1, -1)},
	} {
		begins(t, holder(c.l, nil), nil, 1, nil, c.want)
	}
}

// P13.1: data segments likewise.
func TestDatas(t *testing.T) {
	yes, no := []bool{true}, []bool{false}
	for _, c := range []struct {
		l       []api.Data
		filled  map[int]byte
		dropped []bool
	}{
		{nil, nil, nil},
		{[]api.Data{data(0, 1, 2, 3)}, map[int]byte{0: 1, 1: 2, 2: 3}, yes},
		{[]api.Data{data(memoryEnd-2, 8, 9)}, map[int]byte{memoryEnd - 2: 8, memoryEnd - 1: 9}, yes},
		{[]api.Data{data(memoryEnd)}, nil, yes},
		{[]api.Data{data(0)}, nil, yes},
		{[]api.Data{data(-1<<32+7, 3)}, map[int]byte{7: 3}, yes},
		{[]api.Data{data(5, 1, 2, 3), data(6, 8, 0)}, map[int]byte{5: 1, 6: 8}, []bool{true, true}},
		{[]api.Data{data(6, 8, 9), data(5, 1, 2, 3)}, map[int]byte{5: 1, 6: 2, 7: 3}, []bool{true, true}},
		{[]api.Data{{Mode: api.Passive, Bytes: []byte{1}}}, nil, no},
		{[]api.Data{{Mode: api.Passive, Offset: at(memoryEnd + 1), Bytes: []byte{1}}}, nil, no},
		{[]api.Data{{Mode: api.Declared, Offset: at(0), Bytes: []byte{1}}}, nil, yes},
		{[]api.Data{{Mode: 3, Offset: at(0), Bytes: []byte{1}}, {Mode: -1}, {Mode: math.MinInt}, {Mode: math.MaxInt}}, nil, []bool{true, true, true, true}},
		{[]api.Data{{Mode: api.Passive}, data(9, 9), {Mode: api.Passive}, data(10, 10)}, map[int]byte{9: 9, 10: 10}, []bool{false, true, false, true}},
		{[]api.Data{data(0, make([]byte, memoryEnd)...)}, nil, yes},
	} {
		begins(t, holder(nil, c.l), nil, 1, c.filled, held(nil, c.dropped, -1, -1, -1, -1, -1, -1))
	}
}

// P13.1: the first segment that doesn't fit tells the trap; element segments come ahead of data.
func TestTraps(t *testing.T) {
	fit, fit2 := elem(0, 1), data(0, 1)
	elems := []api.Elem{elem(6, 0), elem(5, 0, 1), elem(7), elem(0, 0, 0, 0, 0, 0, 0, 0), elem(-1), elem(-1, 0), elem(-6, 0, 0, 0, 0, 0, 0), elem(math.MinInt32), elem(math.MaxInt32, 0), elem(1 << 31)}
	datas := []api.Data{data(memoryEnd, 0), data(memoryEnd-1, 1, 2), data(memoryEnd + 1), data(0, make([]byte, memoryEnd+1)...), data(-1), data(-1, 0), data(-2, 1, 2), data(2*memoryEnd, 1), data(math.MinInt32), data(math.MaxInt32, 0), data(1 << 31)}
	for _, x := range elems {
		fails(t, holder([]api.Elem{x}, nil), nil, api.TrapTable, api.OK)
		fails(t, holder([]api.Elem{x, fit}, []api.Data{fit2}), nil, api.TrapTable, api.OK)
		fails(t, holder([]api.Elem{fit, {Mode: api.Passive}, x}, nil), nil, api.TrapTable, api.OK)
		for _, y := range datas {
			fails(t, holder([]api.Elem{x}, []api.Data{y}), nil, api.TrapTable, api.OK)
			fails(t, holder([]api.Elem{fit, x}, []api.Data{y, fit2}), nil, api.TrapTable, api.OK)
		}
		x.Mode = api.Passive
		begins(t, holder([]api.Elem{x}, nil), nil, 1, nil, held([]bool{false}, nil, -1, -1, -1, -1, -1, -1))
	}
	for _, y := range datas {
		fails(t, holder(nil, []api.Data{y}), nil, api.TrapMemory, api.OK)
		fails(t, holder([]api.Elem{fit}, []api.Data{fit2, y, fit2}), nil, api.TrapMemory, api.OK)
		fails(t, holder([]api.Elem{{Mode: api.Declared}}, []api.Data{{Mode: api.Passive}, y}), nil, api.TrapMemory, api.OK)
	}
}

// P13.1: what is imported counts as it was given, not as it was asked for or may grow; and an
// offset may be a global.
func TestGivenPlaces(t *testing.T) {
	m := api.Module{
		Imports: []api.Import{{Kind: api.Glo, Type: api.I32}, {Kind: api.Tab, Limits: limits(1)}, {Kind: api.Mem}},
		Elems:   []api.Elem{{Offset: get(0), Funcs: []int{-1, -1}}}, Datas: []api.Data{{Offset: get(0), Bytes: []byte{4}}},
	}
	for _, c := range []struct {
		value       uint64
		table, most int
		pages, trap int
	}{
		{0, 2, 2, 1, 0}, {3, 5, 9, 1, 0}, {3, 4, 9, 1, api.TrapTable}, {1, 2, 64, 1, api.TrapTable}, {0, 1, 64, 0, api.TrapTable}, {0, 2, 64, 0, api.TrapMemory}, {1<<32 - 1, 64, 64, 4, api.TrapTable}, {62, 64, 64, 4, 0}, {63, 64, 64, 4, api.TrapTable},
	} {
		gives := []api.Given{value(c.value), sizeTo(c.table, c.most), size(c.pages)}
		if s, trap, e := setup(t, m, gives); trap != c.trap || e != api.OK || trap == 0 && (len(s.Table) != c.table || s.Memory[c.value] != 4) {
			t.Errorf("%+v: %d, %d", c, trap, e)
		}
	}
	m.Elems = nil
	for _, c := range []struct {
		value uint64
		pages int
		trap  int
	}{
		{65535, 1, 0}, {65536, 1, api.TrapMemory}, {65536, 2, 0}, {262143, 4, 0}, {262144, 4, api.TrapMemory}, {1<<32 - 1, 4, api.TrapMemory}, {1 << 31, 4, api.TrapMemory},
	} {
		s, trap, e := setup(t, m, []api.Given{value(c.value), size(1), size(c.pages)})
		if trap != c.trap || e != api.OK || trap == 0 && s.Memory[c.value] != 4 {
			t.Errorf("%+v: %d, %d", c, trap, e)
		}
	}
}

// P13.1: long lists of segments, more than a module that is formed has.
func TestManySegments(t *testing.T) {
	var elems []api.Elem
	var datas []api.Data
	dropped := make([]bool, 3000)
	filled := map[int]byte{}
	for i := range dropped {
		elems, datas = append(elems, elem(int64(i%6), i%6)), append(datas, data(int64(i), 7))
		dropped[i], filled[i] = true, 7
	}
	begins(t, holder(elems, datas), nil, 1, filled, held(dropped, dropped, 0, 1, 2, 3, 4, 5))
}

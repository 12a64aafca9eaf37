package inst_test

import (
	"math"
	"slices"
	"testing"

	"trammel/api"
	"trammel/inst"
)

// full has something of everything, and imports of each kind, of which all but the functions are
// given.
func full() (api.Module, []api.Given) {
	return api.Module{
		Types: []api.FuncType{{}, {Params: []int{api.I32}}},
		Imports: []api.Import{
			{Module: "a", Name: "f"}, {Kind: api.Glo, Type: api.I32}, {Kind: api.Mem, Limits: capped(1, 3)}, {Type: 1},
			{Kind: api.Glo, Type: api.I64, Mutable: true}, {Kind: api.Tab, Limits: limits(2)}, {Kind: api.Glo, Type: api.I64},
		},
		Funcs:   []api.Func{{}, {Type: 1}},
		Globals: []api.Global{{Type: api.I64, Init: get(2)}, {Type: api.I32, Mutable: true, Init: at(-1)}},
		Exports: []api.Export{{Name: "f"}},
		Starts:  []int{0},
		Elems:   []api.Elem{{Offset: at(1), Funcs: []int{3, -1, 0}}, {Mode: api.Passive, Funcs: []int{2}}, {Offset: get(0), Funcs: []int{1}}},
		Datas:   []api.Data{{Mode: api.Passive, Bytes: []byte{5}}, {Offset: get(0), Bytes: []byte{6, 7}}},
		Customs: []api.Custom{{Name: "c"}},
	}, []api.Given{
		value(3), sizeTo(2, 3), {Type: api.I64, Mutable: true, Value: math.MaxUint64}, size(4), {Type: api.I64, Value: 1 << 40},
	}
}

// P13.1: the store of a module with something of everything.
func TestSetupFull(t *testing.T) {
	m, gives := full()
	begins(t, m, gives, 2, map[int]byte{3: 6, 4: 7}, api.Store{
		Cap: 3, Table: []int{-1, 3, -1, 1}, Globals: []uint64{3, math.MaxUint64, 1 << 40, 1 << 40, 1<<32 - 1},
		Elems: []bool{true, false, true}, Datas: []bool{false, true},
	})
	begins(t, api.Module{}, nil, 0, nil, api.Store{})
	begins(t, api.Module{}, []api.Given{}, 0, nil, api.Store{})
	begins(t, api.Module{Types: []api.FuncType{{}}, Imports: []api.Import{{}, {}}}, nil, 0, nil, api.Store{})
}

// P13.1: of modules that don't fit together there is no store, whatever is given.
func TestSetupWrong(t *testing.T) {
	for i, spoil := range []func(*api.Module){
		func(m *api.Module) { m.Imports[0].Type = 2 },
		func(m *api.Module) { m.Imports[2].Limits.Max = 0 },
		func(m *api.Module) { m.Imports[2].Limits = capped(1, 65537) },
		func(m *api.Module) { m.Imports[5].Limits.Min = -1 },
		func(m *api.Module) { m.Imports[5].Limits.Min = 65 },
		func(m *api.Module) { m.Funcs[0].Type = -1 },
		func(m *api.Module) { m.Tables = []api.Limits{{}} },
		func(m *api.Module) { m.Mems = []api.Limits{{}} },
		func(m *api.Module) { m.Globals[0].Init = get(1) },
		func(m *api.Module) { m.Globals[1].Init = get(2) },
		func(m *api.Module) { m.Globals[1].Init = get(4) },
		func(m *api.Module) { m.Globals[1].Init = nil },
		func(m *api.Module) { m.Exports[0].Index = 4 },
		func(m *api.Module) { m.Exports = append(m.Exports, m.Exports[0]) },
		func(m *api.Module) { m.Starts[0] = 1 },
		func(m *api.Module) { m.Elems[0].Funcs[1] = 4 },
		func(m *api.Module) { m.Elems[1].Funcs[0] = -2 },
		func(m *api.Module) { m.Elems[0].Offset = get(2) },
		func(m *api.Module) { m.Elems[2].Offset = nil },
		func(m *api.Module) { m.Datas[1].Offset = expr(api.Const64, 0) },
		func(m *api.Module) { m.Funcs[0].Locals = slices.Repeat([]int{api.I32}, 65) },
	} {
		m, gives := full()
		spoil(&m)
		fails(t, m, gives, 0, api.ErrArg)
		m.Elems[2].Funcs = slices.Repeat([]int{0}, 70) // nor is it asked whether this fits
		fails(t, m, gives, 0, api.ErrArg)
		if _, _, e := inst.Setup(m, nil); e != api.ErrArg {
			t.Error(i, e)
		}
	}
	fails(t, api.Module{Elems: []api.Elem{{Offset: at(0)}}}, nil, 0, api.ErrArg)
	fails(t, api.Module{Datas: []api.Data{{Offset: at(0)}}}, nil, 0, api.ErrArg)
	fails(t, api.Module{Mems: []api.Limits{{Min: 5}}}, nil, 0, api.ErrArg)
	fails(t, api.Module{Tables: []api.Limits{{Min: math.MaxInt}}}, nil, 0, api.ErrArg)
}

// P13.1: too few, too many, unfit and in another order, even where a segment doesn't fit either.
func TestSetupGiven(t *testing.T) {
	m, gives := full()
	for n := range len(gives) {
		fails(t, m, gives[:n], 0, api.ErrArg)
		fails(t, m, gives[n+1:], 0, api.ErrArg)
		fails(t, m, slices.Concat(gives[:n], []api.Given{gives[n]}, gives[n:]), 0, api.ErrArg)
		for _, other := range []api.Given{{}, {Type: api.I32, Value: 1 << 32}, size(5), size(-1), sizeTo(2, 4), sizeTo(1, 0)} {
			l := slices.Clone(gives)
			l[n] = other
			if n != 3 || other.Size < 2 { // of which the table takes any
				fails(t, m, l, 0, api.ErrArg)
			}
		}
	}
	fails(t, m, append(slices.Clone(gives), api.Given{}), 0, api.ErrArg)
	fails(t, m, append(slices.Clone(gives), gives...), 0, api.ErrArg)
	slices.Reverse(gives)
	fails(t, m, gives, 0, api.ErrArg)
	fails(t, api.Module{}, []api.Given{{}}, 0, api.ErrArg)
	fails(t, api.Module{Types: []api.FuncType{{}}, Imports: []api.Import{{}}}, []api.Given{{}}, 0, api.ErrArg)
	fails(t, api.Module{Mems: []api.Limits{{Min: 1}}}, []api.Given{size(1)}, 0, api.ErrArg)
	m, gives = full()
	m.Elems[0].Offset = at(99)
	fails(t, m, gives, api.TrapTable, api.OK)
	fails(t, m, gives[1:], 0, api.ErrArg)
	fails(t, m, append(gives[:4:4], api.Given{}), 0, api.ErrArg)
}

// P13.1: an import of no kind is no function, so something is given for it; but nothing fits it.
func TestSetupNoKind(t *testing.T) {
	for _, kind := range []int{-1, 4, math.MinInt, math.MaxInt} {
		m := api.Module{Imports: []api.Import{{Kind: kind}}}
		fails(t, m, nil, 0, api.ErrArg)
		fails(t, m, []api.Given{{}}, 0, api.ErrArg)
		fails(t, m, []api.Given{value(1)}, 0, api.ErrArg)
		fails(t, m, []api.Given{{}, {}}, 0, api.ErrArg)
	}
	odd := api.Module{Imports: []api.Import{{Kind: api.Glo, Type: -5}}, Globals: []api.Global{{Type: -5, Init: get(0)}}}
	begins(t, odd, []api.Given{{Type: -5, Value: 9}}, 0, nil, api.Store{Globals: []uint64{9, 9}})
}

// P13.1: memories, own and imported, by their limits: what there is at first, and Cap.
func TestSetupMemory(t *testing.T) {
	for _, c := range []struct {
		l     api.Limits
		pages int
		most  int
	}{
		{limits(0), 0, 4}, {limits(1), 1, 4}, {limits(4), 4, 4}, {capped(0, 0), 0, 0}, {capped(1, 1), 1, 1}, {capped(1, 3), 1, 3}, {capped(1, 4), 1, 4}, {capped(1, 5), 1, 4}, {capped(4, 4), 4, 4}, {capped(2, 65536), 2, 4},
		{api.Limits{Min: 2, Max: 3}, 2, 4}, {api.Limits{Min: 2, Max: -1}, 2, 4}, {api.Limits{Min: 2, Max: 1}, 2, 4},
	} {
		begins(t, api.Module{Mems: []api.Limits{c.l}}, nil, c.pages, nil, api.Store{Cap: c.most})
		asked := api.Module{Imports: []api.Import{{Kind: api.Mem}}}
		begins(t, asked, []api.Given{{Size: c.l.Min, Capped: c.l.Capped, Max: c.l.Max}}, c.pages, nil, api.Store{Cap: c.most})
	}
	for _, c := range []struct {
		l     api.Limits
		g     api.Given
		pages int
		most  int
	}{
		{limits(1), size(1), 1, 4}, {limits(1), size(3), 3, 4}, {limits(0), size(0), 0, 4}, {limits(1), sizeTo(2, 2), 2, 2}, {limits(1), sizeTo(2, 3), 2, 3}, {limits(0), sizeTo(0, 0), 0, 0}, {limits(1), sizeTo(4, 9), 4, 4}, {limits(1), sizeTo(1, math.MaxInt), 1, 4},
		{capped(1, 3), sizeTo(2, 3), 2, 3}, {capped(1, 3), sizeTo(2, 2), 2, 2}, {capped(0, 65536), sizeTo(1, 65536), 1, 4}, {capped(0, 65536), sizeTo(1, 2), 1, 2}, {limits(2), api.Given{Size: 3, Max: 1}, 3, 4},
	} {
		m := api.Module{Imports: []api.Import{{Kind: api.Mem, Limits: c.l}}}
		begins(t, m, []api.Given{c.g}, c.pages, nil, api.Store{Cap: c.most})
	}
	begins(t, api.Module{Tables: []api.Limits{{}}}, nil, 0, nil, api.Store{})
}

// P13.1: tables, own and imported: as many as there are at least, or as are given; none stands there.
func TestSetupTable(t *testing.T) {
	for _, n := range []int{0, 1, 2, 63, 64} {
		none := slices.Repeat([]int{-1}, n)
		begins(t, api.Module{Tables: []api.Limits{limits(n)}}, nil, 0, nil, api.Store{Table: none})
		begins(t, api.Module{Tables: []api.Limits{capped(n, 1<<32-1)}}, nil, 0, nil, api.Store{Table: none})
		m := api.Module{Imports: []api.Import{{Kind: api.Tab}}}
		begins(t, m, []api.Given{size(n)}, 0, nil, api.Store{Table: none})
		begins(t, m, []api.Given{sizeTo(n, n)}, 0, nil, api.Store{Table: none})
		begins(t, m, []api.Given{sizeTo(n, 100)}, 0, nil, api.Store{Table: none})
	}
	begins(t, api.Module{Imports: []api.Import{{Kind: api.Tab, Limits: limits(2)}}}, []api.Given{size(5)}, 0, nil, api.Store{Table: slices.Repeat([]int{-1}, 5)})
}

// P13.1: globals have what was given, in order, and then their constants, of I32 the lowest 32 bits.
func TestSetupGlobals(t *testing.T) {
	for _, c := range []struct {
		kind int
		x    []api.Instr
		want uint64
	}{
		{api.I32, at(0), 0}, {api.I32, at(1), 1}, {api.I32, at(-1), 1<<32 - 1}, {api.I32, at(math.MinInt32), 1 << 31}, {api.I32, at(math.MaxInt32), 1<<31 - 1}, {api.I32, at(1 << 32), 0}, {api.I32, at(1<<32 + 5), 5}, {api.I32, at(math.MaxInt64), 1<<32 - 1}, {api.I32, at(math.MinInt64), 0}, {api.I32, at(-1 << 40), 0}, {api.I32, at(0x123456789a), 0x3456789a},
		{api.I64, expr(api.Const64, 0), 0}, {api.I64, expr(api.Const64, -1), math.MaxUint64}, {api.I64, expr(api.Const64, math.MinInt64), 1 << 63}, {api.I64, expr(api.Const64, math.MaxInt64), 1<<63 - 1}, {api.I64, expr(api.Const64, 1<<32), 1 << 32}, {api.I64, expr(api.Const64, -1<<32), 0xffffffff00000000},
		{api.I32, get(1), 1<<32 - 1}, {api.I32, get(4), 6}, {api.I64, get(0), 1 << 50}, {api.I64, get(3), math.MaxUint64},
	} {
		m := api.Module{Imports: []api.Import{
			{Kind: api.Glo, Type: api.I64}, {Kind: api.Tab}, {Kind: api.Glo, Type: api.I32}, {Kind: api.Glo, Type: api.I32, Mutable: true}, {Kind: api.Mem},
			{Kind: api.Glo, Type: api.I64}, {Kind: api.Glo, Type: api.I32},
		}}
		gives := []api.Given{{Type: api.I64, Value: 1 << 50}, size(0), value(1<<32 - 1), {Type: api.I32, Mutable: true, Value: 4}, sizeTo(0, 0), {Type: api.I64, Value: math.MaxUint64}, value(6)}
		given := []uint64{1 << 50, 1<<32 - 1, 4, math.MaxUint64, 6}
		for _, mutable := range []bool{false, true} {
			own := api.Global{Type: c.kind, Mutable: mutable, Init: c.x}
			m.Globals = []api.Global{own}
			begins(t, m, gives, 0, nil, api.Store{Globals: append(given, c.want)})
			m.Globals = []api.Global{{Type: api.I32, Init: at(77)}, own, {Type: api.I64, Init: get(3)}}
			begins(t, m, gives, 0, nil, api.Store{Globals: append(given, 77, c.want, math.MaxUint64)})
		}
	}
}

// P13.1: each call begins anew: what was made of a store shows in no other one.
func TestSetupAnew(t *testing.T) {
	m, gives := full()
	first, _, _ := inst.Setup(m, gives)
	want, _, _ := modelSetup(m, gives)
	first.Memory[0], first.Table[0], first.Globals[0], first.Elems[0], first.Datas[0] = 9, 9, 9, false, true
	if second, _, _ := inst.Setup(m, gives); !same(second, want) {
		t.Error("it is kept")
	}
}

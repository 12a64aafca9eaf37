package ctx

import (
	"fmt"
	"math"
	"slices"
	"testing"

	"trammel/api"
)

func sameType(a, b api.FuncType) bool {
	return slices.Equal(a.Params, b.Params) && slices.Equal(a.Results, b.Results)
}

// sameCtx: do two say the same, a list nil or empty alike?
func sameCtx(a, b api.Ctx) bool {
	return slices.EqualFunc(a.Types, b.Types, sameType) && slices.Equal(a.Funcs, b.Funcs) && slices.Equal(a.Globals, b.Globals) &&
		slices.Equal(a.Tables, b.Tables) && slices.Equal(a.Mems, b.Mems) && a.Hosts == b.Hosts && a.Vars == b.Vars &&
		a.Elems == b.Elems && a.Datas == b.Datas && a.Counted == b.Counted
}

// of holds Of against what is written out, and against the model.
func of(t *testing.T, m api.Module, e api.Errno) {
	t.Helper()
	want, f := modelOf(m)
	if f != e {
		t.Errorf("model of %+v: %d; want %d", m, f, e)
	}
	if c, f := Of(m); f != e || !sameCtx(c, want) {
		t.Errorf("Of(%+v) = %+v, %d; want %+v, %d", m, c, f, want, e)
	}
}

// gives holds Of against a context that is written out.
func gives(t *testing.T, m api.Module, want api.Ctx) {
	t.Helper()
	of(t, m, api.OK)
	if c, e := Of(m); e != api.OK || !sameCtx(c, want) {
		t.Errorf("Of(%+v) = %+v, %d; want %+v", m, c, e, want)
	}
}

func one(op int, k int64) []api.Instr { return []api.Instr{{Op: op, K: k}, {Op: api.End}} }

func get(g int) []api.Instr { return []api.Instr{{Op: api.GlobalGet, A: g}, {Op: api.End}} }

func many32(n int) []int { return slices.Repeat([]int{api.I32}, n) }

// shapes are types: of nothing, one that takes, one that gives, and one that does both.
func shapes() []api.FuncType {
	return []api.FuncType{{}, {Params: []int{api.I32}}, {Results: []int{api.I64}}, {Params: []int{api.I32, api.I64}, Results: []int{api.I64, api.I32}}}
}

// full is right, has something of everything, and is at many edges.
func full() api.Module {
	m := api.Module{
		Types: shapes(),
		Imports: []api.Import{
			{Module: "a", Name: "f", Type: 3}, {Kind: api.Glo, Type: api.I32}, {}, {Kind: api.Glo, Type: api.I32, Mutable: true},
			{Kind: api.Tab, Limits: api.Limits{Min: 64, Capped: true, Max: 64}}, {Kind: api.Mem, Limits: api.Limits{Min: 4, Capped: true, Max: 65536}},
			{Kind: api.Glo, Type: api.I64},
		},
		Funcs:   []api.Func{{Body: one(api.Nop, 0)}, {Type: 1, Locals: many32(63)}, {Type: 2, Locals: many32(64)}},
		Globals: []api.Global{{Type: api.I32, Init: one(api.Const32, -1)}, {Type: api.I64, Mutable: true, Init: one(api.Const64, 5)}, {Type: api.I32, Init: get(0)}, {Type: api.I64, Init: get(2)}},
		Exports: []api.Export{{Name: "f"}, {Name: "last f", Index: 4}, {Name: "t", Kind: api.Tab}, {Name: "m", Kind: api.Mem}, {Kind: api.Glo}, {Name: "last g", Kind: api.Glo, Index: 6}},
		Starts:  []int{2},
		Elems:   []api.Elem{{Offset: one(api.Const32, 0), Funcs: []int{0, -1, 4}}, {Mode: api.Passive, Funcs: []int{-1}}, {Mode: api.Declared, Funcs: []int{2}}, {Offset: get(0)}},
		Counts:  []int{3},
		Datas:   []api.Data{{Offset: one(api.Const32, 9), Bytes: []byte{1, 2}}, {Mode: api.Passive}, {Offset: get(0), Bytes: []byte{3}}},
		Customs: []api.Custom{{Name: "c", Bytes: []byte{4}}},
	}
	return m
}

// P9.1: what a module's bodies may name, the imports first in each list, in their order.
func TestFull(t *testing.T) {
	gives(t, full(), api.Ctx{
		Types:   shapes(),
		Funcs:   []int{3, 0, 0, 1, 2},
		Hosts:   2,
		Globals: []api.Var{{Type: api.I32}, {Type: api.I32, Mutable: true}, {Type: api.I64}, {Type: api.I32}, {Type: api.I64, Mutable: true}, {Type: api.I32}, {Type: api.I64}},
		Vars:    3,
		Tables:  []api.Limits{{Min: 64, Capped: true, Max: 64}},
		Mems:    []api.Limits{{Min: 4, Capped: true, Max: 65536}},
		Elems:   4, Datas: 3, Counted: true,
	})
	gives(t, api.Module{}, api.Ctx{})
	gives(t, api.Module{Types: shapes()}, api.Ctx{Types: shapes()})
	gives(t, api.Module{Types: shapes(), Funcs: []api.Func{{Type: 2}, {Type: 1}}}, api.Ctx{Types: shapes(), Funcs: []int{2, 1}})
	gives(t, api.Module{Types: shapes(), Imports: []api.Import{{Type: 2}, {Type: 1}}}, api.Ctx{Types: shapes(), Funcs: []int{2, 1}, Hosts: 2})
	gives(t, api.Module{Tables: []api.Limits{{Min: 1}}, Mems: []api.Limits{{Min: 2, Max: 9}}}, api.Ctx{Tables: []api.Limits{{Min: 1}}, Mems: []api.Limits{{Min: 2, Max: 9}}})
	gives(t, api.Module{Globals: []api.Global{{Type: api.I64, Init: one(api.Const64, 0)}}}, api.Ctx{Globals: []api.Var{{Type: api.I64}}})
	gives(t, api.Module{Counts: []int{0}}, api.Ctx{Counted: true})
	gives(t, api.Module{Datas: []api.Data{{Mode: api.Passive}}}, api.Ctx{Datas: 1})
	gives(t, api.Module{Elems: []api.Elem{{Mode: api.Passive}, {Mode: api.Declared}}}, api.Ctx{Elems: 2})
}

// wrong is a change of the full module that makes one thing of one kind wrong, and the error.
type wrong struct {
	name string
	kind int
	e    api.Errno
	do   func(*api.Module)
}

func wrongs() []wrong {
	return slices.Concat(wrongImports(), wrongLists(), wrongNames(), []wrong{
		{"an element's offset", 9, api.ErrType, func(m *api.Module) { m.Elems[0].Offset = one(api.Const64, 0) }},
		{"an element beyond", 9, api.ErrIndex, func(m *api.Module) { m.Elems[1].Funcs[0] = 5 }},
		{"an element -2", 9, api.ErrIndex, func(m *api.Module) { m.Elems[2].Funcs[0] = -2 }},
		{"a data's offset", 10, api.ErrType, func(m *api.Module) { m.Datas[2].Offset = get(2) }},
		{"65 locals", 11, api.ErrLong, func(m *api.Module) { m.Funcs[0].Locals = many32(65) }},
		{"65 with a parameter", 11, api.ErrLong, func(m *api.Module) { m.Funcs[1].Locals = many32(64) }},
	})
}

func wrongImports() []wrong {
	return []wrong{
		{"an import's type", 1, api.ErrIndex, func(m *api.Module) { m.Imports[0].Type = 4 }},
		{"an import's type below 0", 1, api.ErrIndex, func(m *api.Module) { m.Imports[2].Type = -1 }},
		{"an imported table's least", 1, api.ErrArg, func(m *api.Module) { m.Imports[4].Limits.Min = -1 }},
		{"an imported table's most", 1, api.ErrArg, func(m *api.Module) { m.Imports[4].Limits.Max = 63 }},
		{"an imported table", 1, api.ErrLong, func(m *api.Module) { m.Imports[4].Limits = api.Limits{Min: 65} }},
		{"an imported memory's most", 1, api.ErrArg, func(m *api.Module) { m.Imports[5].Limits.Max = 65537 }},
		{"an imported memory", 1, api.ErrLong, func(m *api.Module) { m.Imports[5].Limits.Min = 5 }},
	}
}

func wrongLists() []wrong {
	return []wrong{
		{"a function's type", 2, api.ErrIndex, func(m *api.Module) { m.Funcs[2].Type = 4 }},
		{"a function's type below 0", 2, api.ErrIndex, func(m *api.Module) { m.Funcs[2].Type = math.MinInt }},
		{"a table's least", 3, api.ErrArg, func(m *api.Module) { m.Tables = append(m.Tables, api.Limits{Min: -1}) }},
		{"a table", 3, api.ErrLong, func(m *api.Module) { m.Tables = append(m.Tables, api.Limits{Min: 65}) }},
		{"a memory's least", 4, api.ErrArg, func(m *api.Module) { m.Mems = append(m.Mems, api.Limits{Min: 65537}) }},
		{"a memory", 4, api.ErrLong, func(m *api.Module) { m.Mems = append(m.Mems, api.Limits{Min: 5}) }},
		{"two tables", 5, api.ErrWide, func(m *api.Module) { m.Tables = append(m.Tables, api.Limits{}) }},
		{"two memories", 5, api.ErrTwice, func(m *api.Module) { m.Mems = append(m.Mems, api.Limits{}) }},
		{"a constant of another type", 6, api.ErrType, func(m *api.Module) { m.Globals[0].Init = one(api.Const64, 0) }},
		{"a constant of a mutable one", 6, api.ErrType, func(m *api.Module) { m.Globals[2].Init = get(1) }},
	}
}

func wrongNames() []wrong {
	return []wrong{
		{"a name that is there", 7, api.ErrTwice, func(m *api.Module) { m.Exports = append(m.Exports, api.Export{Name: "f"}) }},
		{"an export of no function", 7, api.ErrIndex, func(m *api.Module) { m.Exports[1].Index = 5 }},
		{"an export of no global", 7, api.ErrIndex, func(m *api.Module) { m.Exports[5].Index = 7 }},
		{"no start", 8, api.ErrIndex, func(m *api.Module) { m.Starts[0] = 5 }},
		{"a start that gives", 8, api.ErrType, func(m *api.Module) { m.Starts[0] = 4 }},
	}
}

// P9.1: of two kinds the one that is named first tells its error, in whatever order they were made
// wrong; of one kind the list's first; of one thing the one that is named first.
func TestOrder(t *testing.T) {
	for _, a := range wrongs() {
		m := full()
		a.do(&m)
		of(t, m, a.e)
		if _, f := modelFault(m); f.kind != a.kind {
			t.Errorf("%s: %v", a.name, f)
		}
		for _, b := range wrongs() {
			m := full()
			a.do(&m)
			b.do(&m)
			e := b.e
			if a.kind < b.kind {
				e = a.e
			} else if a.kind == b.kind {
				_, e = modelOf(m)
			}
			t.Run(fmt.Sprintf("%s, %s", a.name, b.name), func(t *testing.T) { of(t, m, e) })
		}
	}
}

// tables and memories are limits at the edges, and what is said of them.
func tables() []limit {
	return []limit{
		{api.Limits{}, api.OK}, {api.Limits{Min: 1}, api.OK}, {api.Limits{Min: 63}, api.OK}, {api.Limits{Min: 64}, api.OK}, {api.Limits{Min: 65}, api.ErrLong}, {api.Limits{Min: 65536}, api.ErrLong}, {api.Limits{Min: 65537}, api.ErrLong}, {api.Limits{Min: math.MaxInt}, api.ErrLong},
		{api.Limits{Min: -1}, api.ErrArg}, {api.Limits{Min: math.MinInt}, api.ErrArg}, {api.Limits{Min: -1, Max: 5}, api.ErrArg},
		{capped(0, 0), api.OK}, {capped(64, 64), api.OK}, {capped(64, 65), api.OK}, {capped(64, 63), api.ErrArg}, {capped(1, 0), api.ErrArg}, {capped(0, -1), api.ErrArg}, {capped(-1, -1), api.ErrArg}, {capped(-2, -1), api.ErrArg}, {capped(-1, 0), api.ErrArg}, {capped(0, math.MinInt), api.ErrArg},
		{capped(0, 65536), api.OK}, {capped(0, 65537), api.OK}, {capped(64, 1<<32-1), api.OK}, {capped(1, math.MaxInt), api.OK},
		{capped(65, 65), api.ErrLong}, {capped(65, 66), api.ErrLong}, {capped(65, 64), api.ErrArg}, {capped(65, 0), api.ErrArg}, {capped(math.MaxInt, math.MaxInt), api.ErrLong}, {capped(math.MaxInt, 0), api.ErrArg},
		{api.Limits{Min: 1, Max: -1}, api.OK}, {api.Limits{Min: 64, Max: 63}, api.OK}, {api.Limits{Max: math.MaxInt}, api.OK}, {api.Limits{Min: 65, Max: 1}, api.ErrLong},
	}
}

func memories() []limit {
	return []limit{
		{api.Limits{}, api.OK}, {api.Limits{Min: 1}, api.OK}, {api.Limits{Min: 3}, api.OK}, {api.Limits{Min: 4}, api.OK}, {api.Limits{Min: 5}, api.ErrLong}, {api.Limits{Min: 65}, api.ErrLong}, {api.Limits{Min: 65535}, api.ErrLong}, {api.Limits{Min: 65536}, api.ErrLong}, {api.Limits{Min: 65537}, api.ErrArg}, {api.Limits{Min: math.MaxInt}, api.ErrArg},
		{api.Limits{Min: -1}, api.ErrArg}, {api.Limits{Min: math.MinInt}, api.ErrArg}, {api.Limits{Min: -1, Max: 5}, api.ErrArg},
		{capped(0, 0), api.OK}, {capped(4, 4), api.OK}, {capped(4, 5), api.OK}, {capped(4, 3), api.ErrArg}, {capped(1, 0), api.ErrArg}, {capped(0, -1), api.ErrArg}, {capped(-1, -1), api.ErrArg}, {capped(-2, -1), api.ErrArg}, {capped(-1, 0), api.ErrArg}, {capped(0, math.MinInt), api.ErrArg},
		{capped(0, 65535), api.OK}, {capped(0, 65536), api.OK}, {capped(4, 65536), api.OK}, {capped(0, 65537), api.ErrArg}, {capped(4, 65537), api.ErrArg}, {capped(1, 1<<32-1), api.ErrArg}, {capped(1, math.MaxInt), api.ErrArg},
		{capped(5, 5), api.ErrLong}, {capped(5, 65536), api.ErrLong}, {capped(5, 4), api.ErrArg}, {capped(5, 65537), api.ErrArg}, {capped(65536, 65536), api.ErrLong}, {capped(65536, 65535), api.ErrArg}, {capped(65537, 65537), api.ErrArg}, {capped(65537, 1), api.ErrArg},
		{api.Limits{Min: 1, Max: -1}, api.OK}, {api.Limits{Min: 4, Max: 3}, api.OK}, {api.Limits{Max: 65537}, api.OK}, {api.Limits{Max: math.MaxInt}, api.OK}, {api.Limits{Min: 5, Max: 65537}, api.ErrLong},
	}
}

type limit struct {
	l api.Limits
	e api.Errno
}

func capped(least, most int) api.Limits { return api.Limits{Min: least, Capped: true, Max: most} }

// P9.1: the limits of tables and memories, own and imported, alone and behind others. An own one
// that isn't right is told ahead of there being two.
func TestLimits(t *testing.T) {
	for _, c := range tables() {
		of(t, api.Module{Tables: []api.Limits{c.l}}, c.e)
		of(t, api.Module{Imports: []api.Import{{Kind: api.Tab, Limits: c.l}}}, c.e)
		of(t, api.Module{Imports: []api.Import{{Kind: api.Tab, Limits: c.l, Type: 99, Mutable: true}}}, c.e)
		if c.e == api.OK {
			gives(t, api.Module{Tables: []api.Limits{c.l}}, api.Ctx{Tables: []api.Limits{c.l}})
			gives(t, api.Module{Imports: []api.Import{{Kind: api.Tab, Limits: c.l}}}, api.Ctx{Tables: []api.Limits{c.l}})
			of(t, api.Module{Tables: []api.Limits{{}, c.l}}, api.ErrWide)
		} else {
			of(t, api.Module{Tables: []api.Limits{{}, c.l}}, c.e)
			of(t, api.Module{Tables: []api.Limits{c.l, {}}}, c.e)
			of(t, api.Module{Tables: []api.Limits{c.l}, Mems: []api.Limits{{Min: 5}}}, c.e)
			of(t, api.Module{Tables: []api.Limits{c.l}, Funcs: []api.Func{{}}}, api.ErrIndex)
			of(t, api.Module{Imports: []api.Import{{Kind: api.Tab, Limits: c.l}}, Funcs: []api.Func{{}}}, c.e)
		}
	}
	for _, c := range memories() {
		of(t, api.Module{Mems: []api.Limits{c.l}}, c.e)
		of(t, api.Module{Imports: []api.Import{{Kind: api.Mem, Limits: c.l}}}, c.e)
		of(t, api.Module{Imports: []api.Import{{Kind: api.Mem, Limits: c.l, Type: -9, Mutable: true}}}, c.e)
		if c.e == api.OK {
			gives(t, api.Module{Mems: []api.Limits{c.l}}, api.Ctx{Mems: []api.Limits{c.l}})
			gives(t, api.Module{Imports: []api.Import{{Kind: api.Mem, Limits: c.l}}}, api.Ctx{Mems: []api.Limits{c.l}})
			of(t, api.Module{Mems: []api.Limits{{}, c.l}}, api.ErrTwice)
		} else {
			of(t, api.Module{Mems: []api.Limits{{}, c.l}}, c.e)
			of(t, api.Module{Mems: []api.Limits{c.l, {}}}, c.e)
			of(t, api.Module{Mems: []api.Limits{c.l}, Tables: []api.Limits{{}, {}}}, c.e)
			of(t, api.Module{Mems: []api.Limits{c.l}, Tables: []api.Limits{{Min: 65}}}, api.ErrLong)
			of(t, api.Module{Mems: []api.Limits{c.l}, Tables: []api.Limits{{Min: -1}}}, api.ErrArg)
			of(t, api.Module{Imports: []api.Import{{Kind: api.Mem, Limits: c.l}}, Funcs: []api.Func{{}}}, c.e)
		}
	}
	for _, l := range [][]api.Limits{{{Min: 65}, {Min: -1}}, {{}, {Min: 65}, {Min: -1}}} {
		of(t, api.Module{Tables: l}, api.ErrLong)
		of(t, api.Module{Mems: l}, api.ErrLong)
		slices.Reverse(l)
		of(t, api.Module{Tables: l}, api.ErrArg)
		of(t, api.Module{Mems: l}, api.ErrArg)
	}
}

// P9.1: imports, in their own order, whatever kinds they are of. What a kind doesn't have says
// nothing.
func TestImports(t *testing.T) {
	long, arg, index := api.Import{Kind: api.Tab, Limits: api.Limits{Min: 65}}, api.Import{Kind: api.Mem, Limits: api.Limits{Min: -1}}, api.Import{Type: 4}
	right := api.Import{Type: 3}
	for _, c := range []struct {
		l []api.Import
		e api.Errno
	}{
		{[]api.Import{right}, api.OK}, {[]api.Import{{Type: 0}}, api.OK}, {[]api.Import{index}, api.ErrIndex}, {[]api.Import{right, index}, api.ErrIndex}, {[]api.Import{{Type: -1}}, api.ErrIndex}, {[]api.Import{{Type: math.MinInt}}, api.ErrIndex}, {[]api.Import{{Type: math.MaxInt}}, api.ErrIndex}, {[]api.Import{{Type: api.I32}}, api.ErrIndex},
		{[]api.Import{long, arg, index}, api.ErrLong}, {[]api.Import{arg, index, long}, api.ErrArg}, {[]api.Import{index, long, arg}, api.ErrIndex}, {[]api.Import{right, {Kind: api.Glo}, long, index}, api.ErrLong},
		{[]api.Import{{Limits: api.Limits{Min: -1, Capped: true, Max: -2}}}, api.OK}, {[]api.Import{{Kind: api.Glo, Type: api.I64, Limits: api.Limits{Min: -1}}}, api.OK}, {[]api.Import{{Kind: api.Glo, Type: 77}}, api.OK},
		{[]api.Import{right, right}, api.OK}, {[]api.Import{{Module: "m", Name: "n"}, {Module: "m", Name: "n"}}, api.OK}, {[]api.Import{{Module: "\xff"}}, api.OK},
		{slices.Repeat([]api.Import{right}, 65), api.OK}, {slices.Repeat([]api.Import{right, {Kind: api.Glo, Type: api.I32}}, 300), api.OK},
	} {
		of(t, api.Module{Types: shapes(), Imports: c.l}, c.e)
	}
	of(t, api.Module{Imports: []api.Import{{}}}, api.ErrIndex)
	of(t, api.Module{Types: shapes()[:1], Imports: []api.Import{{}}}, api.OK)
	gives(t, api.Module{Types: shapes(), Imports: []api.Import{{Kind: api.Glo, Type: api.I64, Mutable: true}, {Kind: api.Mem}, right, {Kind: api.Tab}, {Kind: api.Glo, Type: api.I32}, {Type: 1}}},
		api.Ctx{Types: shapes(), Funcs: []int{3, 1}, Hosts: 2, Globals: []api.Var{{Type: api.I64, Mutable: true}, {Type: api.I32}}, Vars: 2, Tables: make([]api.Limits, 1), Mems: make([]api.Limits, 1)})
}

// P9.1: functions' types. An imported function is none of the list.
func TestFunctions(t *testing.T) {
	for _, c := range []struct {
		types, kind int
		e           api.Errno
	}{
		{0, 0, api.ErrIndex}, {1, 0, api.OK}, {1, 1, api.ErrIndex}, {4, 3, api.OK}, {4, 4, api.ErrIndex}, {4, -1, api.ErrIndex}, {4, math.MinInt, api.ErrIndex}, {4, math.MaxInt, api.ErrIndex}, {4, 1 << 32, api.ErrIndex},
	} {
		of(t, api.Module{Types: shapes()[:c.types], Funcs: []api.Func{{Type: c.kind}}}, c.e)
		of(t, api.Module{Types: shapes()[:c.types], Imports: []api.Import{{Kind: api.Tab}}, Funcs: []api.Func{{Type: c.kind, Body: one(api.Nop, 0)}}}, c.e)
		if c.types > 3 {
			of(t, api.Module{Types: shapes(), Funcs: []api.Func{{}, {Type: 2}, {Type: c.kind}}}, c.e)
		}
	}
	of(t, api.Module{Types: shapes(), Funcs: []api.Func{{Type: 4, Locals: many32(65)}}}, api.ErrIndex)
	of(t, api.Module{Types: shapes(), Funcs: []api.Func{{Locals: many32(65)}, {Type: 4}}}, api.ErrIndex)
	of(t, api.Module{Types: shapes(), Funcs: slices.Repeat([]api.Func{{Type: 3}}, 100)}, api.OK)
}

// P9.1: how many tables and memories there are, own and imported.
func TestSingle(t *testing.T) {
	for imported := range 4 {
		for own := range 4 {
			e, f := api.OK, api.OK
			if imported+own > 1 {
				e, f = api.ErrWide, api.ErrTwice
			}
			tabs := api.Module{Imports: slices.Repeat([]api.Import{{Kind: api.Tab}}, imported), Tables: make([]api.Limits, own)}
			of(t, tabs, e)
			mems := api.Module{Imports: slices.Repeat([]api.Import{{Kind: api.Mem}}, imported), Mems: make([]api.Limits, own)}
			of(t, mems, f)
			both := api.Module{Imports: append(mems.Imports, tabs.Imports...), Tables: tabs.Tables, Mems: mems.Mems}
			of(t, both, e)
			both.Globals = []api.Global{{}}
			if e == api.OK {
				e = api.ErrType
			}
			of(t, both, e)
		}
	}
	of(t, api.Module{Tables: make([]api.Limits, 1), Mems: make([]api.Limits, 2), Globals: []api.Global{{}}}, api.ErrTwice)
	of(t, api.Module{Tables: make([]api.Limits, 2), Mems: make([]api.Limits, 1)}, api.ErrWide)
	of(t, api.Module{Tables: make([]api.Limits, 1), Mems: make([]api.Limits, 1), Imports: slices.Repeat([]api.Import{{Kind: api.Glo}}, 3)}, api.OK)
}

// P9.1: globals. An Init names imported ones alone, be an own one ahead of it or not.
func TestGlobals(t *testing.T) {
	imports := []api.Import{{Kind: api.Glo, Type: api.I32}, {Kind: api.Glo, Type: api.I32, Mutable: true}, {Kind: api.Glo, Type: api.I64}, {Kind: api.Glo, Type: api.I64, Mutable: true}}
	k32, k64 := one(api.Const32, 1), one(api.Const64, 1)
	for _, c := range []struct {
		kind int
		init []api.Instr
		ok   bool
	}{
		{api.I32, k32, true}, {api.I64, k64, true}, {api.I32, k64, false}, {api.I64, k32, false}, {api.I32, get(0), true}, {api.I32, get(1), false}, {api.I32, get(2), false}, {api.I32, get(3), false},
		{api.I64, get(0), false}, {api.I64, get(1), false}, {api.I64, get(2), true}, {api.I64, get(3), false}, {api.I32, get(4), false}, {api.I32, get(5), false}, {api.I64, get(6), false}, {api.I32, get(-1), false}, {api.I32, get(math.MaxInt), false}, {api.I32, get(math.MinInt), false},
		{api.I32, nil, false}, {api.I32, []api.Instr{}, false}, {api.I32, k32[:1], false}, {api.I32, k32[1:], false}, {0, k32, false}, {0, k64, false}, {0, nil, false}, {0x70, k32, false}, {-1, k32, false},
		{api.I32, []api.Instr{{Op: api.Const32}, {Op: api.Nop}, {Op: api.End}}, false}, {api.I32, []api.Instr{{Op: api.Const32}, {Op: api.End}, {Op: api.End}}, false}, {api.I32, []api.Instr{{Op: api.Const32}, {Op: api.Const32}}, false}, {api.I32, []api.Instr{{Op: api.LocalGet}, {Op: api.End}}, false},
	} {
		e := api.ErrType
		if c.ok {
			e = api.OK
		}
		for _, mutable := range []bool{false, true} {
			x := api.Global{Type: c.kind, Mutable: mutable, Init: c.init}
			right := api.Global{Type: api.I32, Init: k32}
			of(t, api.Module{Imports: imports, Globals: []api.Global{x}}, e)
			of(t, api.Module{Imports: imports, Globals: []api.Global{right, right, x}}, e)
			of(t, api.Module{Imports: imports, Globals: []api.Global{x, right, right}}, e)
		}
	}
	own := api.Global{Type: api.I32, Init: k32}
	of(t, api.Module{Globals: []api.Global{own, {Type: api.I32, Init: get(0)}}}, api.ErrType)
	of(t, api.Module{Globals: []api.Global{{Type: api.I32, Init: get(0)}}}, api.ErrType)
	of(t, api.Module{Globals: []api.Global{{Type: api.I32, Init: get(1)}, own}}, api.ErrType)
	of(t, api.Module{Imports: []api.Import{{Kind: api.Glo, Type: api.I32}}, Globals: []api.Global{own, {Type: api.I32, Init: get(0)}}}, api.OK)
	of(t, api.Module{Types: shapes(), Imports: []api.Import{{}, {Kind: api.Tab}, {Kind: api.Glo, Type: api.I64}}, Globals: []api.Global{{Type: api.I64, Init: get(0)}}}, api.OK)
	of(t, api.Module{Types: shapes(), Imports: []api.Import{{}, {Kind: api.Tab}, {Kind: api.Glo, Type: api.I64}}, Globals: []api.Global{{Type: api.I64, Init: get(2)}}}, api.ErrType)
}

// P9.1: exports. A name is there only once, be the two of one kind or not; each kind has its own
// numbers, with the imported things ahead.
func TestExports(t *testing.T) {
	m := api.Module{Types: shapes(), Imports: []api.Import{{}, {Kind: api.Glo, Type: api.I64}, {Type: 1}, {Kind: api.Mem}}, Funcs: []api.Func{{}}, Tables: make([]api.Limits, 1), Globals: []api.Global{{Type: api.I32, Init: one(api.Const32, 0)}}}
	counts := []int{3, 1, 1, 2}
	for kind, n := range counts {
		for _, i := range []int{-1, 0, 1, 2, 3, 4, 1 << 32, math.MaxInt, math.MinInt} {
			e := api.ErrIndex
			if i >= 0 && i < n {
				e = api.OK
			}
			m.Exports = []api.Export{{Name: "a", Kind: kind, Index: i}}
			of(t, m, e)
			m.Exports = []api.Export{{Name: "b"}, {Name: "a", Kind: kind, Index: i}, {Name: "c"}}
			of(t, m, e)
			of(t, api.Module{Exports: m.Exports[1:2]}, api.ErrIndex)
		}
		for other := range counts {
			for _, name := range []string{"", "a", "\x00", "\xff", "é"} {
				m.Exports = []api.Export{{Name: name, Kind: kind}, {Name: name, Kind: other}}
				of(t, m, api.ErrTwice)
				m.Exports[1].Index = 9
				of(t, m, api.ErrTwice)
				m.Exports[1].Name += "b"
				of(t, m, api.ErrIndex)
				m.Exports[1].Index = 0
				of(t, m, api.OK)
				m.Exports = []api.Export{{Name: name, Kind: kind, Index: 9}, {Name: name, Kind: other}}
				of(t, m, api.ErrIndex)
				m.Exports = []api.Export{{Name: name, Kind: kind}, {Name: "c", Kind: other}, {Name: name, Kind: other}, {Name: "d", Index: 9}}
				of(t, m, api.ErrTwice)
				m.Exports[1].Index = 9
				of(t, m, api.ErrIndex)
			}
		}
	}
	for _, kind := range []int{-1, 4, 5, 256, math.MaxInt, math.MinInt} {
		m.Exports = []api.Export{{Kind: kind}}
		of(t, m, api.ErrIndex)
	}
	m.Exports = nil
	for i := range 1000 {
		m.Exports = append(m.Exports, api.Export{Name: fmt.Sprint(i), Index: i % 3})
	}
	of(t, m, api.OK)
	m.Exports = append(m.Exports, api.Export{Name: "0"})
	of(t, m, api.ErrTwice)
	of(t, api.Module{Types: shapes(), Imports: []api.Import{{Module: "a", Name: "a"}}, Exports: []api.Export{{Name: "a"}}}, api.OK)
}

// P9.1: a start takes and gives nothing, and may be imported.
func TestStarts(t *testing.T) {
	m := api.Module{Types: shapes(), Imports: []api.Import{{Type: 3}, {Kind: api.Mem}, {}}, Funcs: []api.Func{{Type: 1}, {}, {Type: 2}}}
	for start, e := range map[int]api.Errno{
		0: api.ErrType, 1: api.OK, 2: api.ErrType, 3: api.OK, 4: api.ErrType, 5: api.ErrIndex, 6: api.ErrIndex, -1: api.ErrIndex, math.MaxInt: api.ErrIndex, math.MinInt: api.ErrIndex,
	} {
		m.Starts = []int{start}
		of(t, m, e)
		m.Starts = []int{3, start}
		of(t, m, e)
		of(t, api.Module{Starts: []int{start}}, api.ErrIndex)
		if e == api.OK {
			continue
		}
		m.Starts = []int{start, 5}
		of(t, m, e)
		m.Starts = []int{start, 0}
		of(t, m, e)
	}
	of(t, api.Module{Types: shapes(), Funcs: []api.Func{{}}, Starts: []int{0}, Exports: []api.Export{{}}}, api.OK)
}

// offsets are expressions, and whether they are constants of an I32 in a module whose globals are
// the ones of segments.
func offsets() []struct {
	l  []api.Instr
	ok bool
} {
	return []struct {
		l  []api.Instr
		ok bool
	}{
		{one(api.Const32, 0), true}, {one(api.Const32, -1), true}, {one(api.Const32, 1<<40), true}, {one(api.Const64, 0), false}, {get(0), true}, {get(1), false}, {get(2), false}, {get(3), false}, {get(4), false}, {get(-1), false},
		{nil, false}, {one(api.Const32, 0)[:1], false}, {one(api.Const32, 0)[1:], false}, {[]api.Instr{{Op: api.Const32}, {Op: api.Const32}}, false}, {[]api.Instr{{Op: api.Const32}, {Op: api.End}, {Op: api.End}}, false}, {[]api.Instr{{Op: api.Const32}, {Op: api.Const32}, {Op: 0x6a}, {Op: api.End}}, false}, {one(api.Nop, 0), false},
	}
}

// segments have a table and a memory, each imported or not, or none; two functions; and globals,
// of which the last is the module's own.
func segments(table, memory int) api.Module {
	m := api.Module{Types: shapes(), Imports: []api.Import{{Kind: api.Glo, Type: api.I32}, {Type: 1}, {Kind: api.Glo, Type: api.I32, Mutable: true}, {Kind: api.Glo, Type: api.I64}}, Funcs: []api.Func{{}}, Globals: []api.Global{{Type: api.I32, Init: one(api.Const32, 0)}}}
	switch table {
	case 1:
		m.Tables = make([]api.Limits, 1)
	case 2:
		m.Imports = append(m.Imports, api.Import{Kind: api.Tab})
	}
	switch memory {
	case 1:
		m.Mems = make([]api.Limits, 1)
	case 2:
		m.Imports = append(m.Imports, api.Import{Kind: api.Mem})
	}
	return m
}

// P9.1: element segments of each mode, with a table and without one, with functions that are there,
// that are none, and that are not there.
func TestElems(t *testing.T) {
	funcs := map[int]api.Errno{-1: api.OK, 0: api.OK, 1: api.OK, 2: api.ErrIndex, -2: api.ErrIndex, math.MinInt: api.ErrIndex, math.MaxInt: api.ErrIndex}
	for table := range 3 {
		for _, mode := range []int{0, 1, 2, 3, -1, math.MaxInt} {
			for _, o := range offsets() {
				e := api.OK
				if mode == api.Active && table == 0 {
					e = api.ErrIndex
				} else if mode == api.Active && !o.ok {
					e = api.ErrType
				}
				m := segments(table, 1)
				m.Elems = []api.Elem{{Mode: mode, Offset: o.l}}
				of(t, m, e)
				m.Elems = []api.Elem{{Mode: api.Passive}, {Mode: mode, Offset: o.l}, {Mode: api.Passive, Funcs: []int{0}}}
				of(t, m, e)
				for f, g := range funcs {
					if e != api.OK {
						g = e
					}
					m.Elems = []api.Elem{{Mode: mode, Offset: o.l, Funcs: []int{f}}}
					of(t, m, g)
					m.Elems = []api.Elem{{Mode: mode, Offset: o.l, Funcs: []int{0, -1, f, 1}}}
					of(t, m, g)
				}
			}
		}
	}
	bad, off, right := api.Elem{Mode: api.Passive, Funcs: []int{2}}, api.Elem{Offset: get(1)}, api.Elem{Offset: get(0), Funcs: []int{1}}
	m := segments(1, 0)
	for _, c := range []struct {
		l []api.Elem
		e api.Errno
	}{{[]api.Elem{bad, off}, api.ErrIndex}, {[]api.Elem{off, bad}, api.ErrType}, {[]api.Elem{right, off, bad}, api.ErrType}, {[]api.Elem{right, bad, off}, api.ErrIndex}, {[]api.Elem{right, right}, api.OK}, {slices.Repeat([]api.Elem{right}, 100), api.OK}} {
		m.Elems = c.l
		of(t, m, c.e)
	}
}

// P9.1: data segments of each mode, with a memory and without one. A table is no memory.
func TestDatas(t *testing.T) {
	for memory := range 3 {
		for _, mode := range []int{0, 1, 2, 3, -1, math.MaxInt} {
			for _, o := range offsets() {
				e := api.OK
				if mode == api.Active && memory == 0 {
					e = api.ErrIndex
				} else if mode == api.Active && !o.ok {
					e = api.ErrType
				}
				m := segments(1, memory)
				m.Datas = []api.Data{{Mode: mode, Offset: o.l, Bytes: []byte{1}}}
				of(t, m, e)
				m.Datas = []api.Data{{Mode: api.Passive}, {Mode: mode, Offset: o.l}, {Mode: api.Passive}}
				of(t, m, e)
				m.Elems = []api.Elem{{Mode: api.Passive, Funcs: []int{9}}}
				of(t, m, api.ErrIndex)
				m.Elems = []api.Elem{{Offset: one(api.Const64, 0)}}
				of(t, m, api.ErrType)
			}
		}
	}
	m := segments(0, 1)
	m.Datas = []api.Data{{Offset: get(0)}, {Offset: get(1)}}
	of(t, m, api.ErrType)
	m.Counts = []int{9}
	of(t, m, api.ErrType)
	m.Datas = m.Datas[:1]
	of(t, m, api.OK)
}

// P9.1: parameters and locals together. Imported functions have none but parameters, and are not
// counted.
func TestLocals(t *testing.T) {
	for params := range 70 {
		for _, locals := range []int{0, 1, 63 - params, 64 - params, 65 - params, 66 - params, 63, 64, 65} {
			if locals < 0 {
				continue
			}
			e := api.OK
			if params+locals > 64 {
				e = api.ErrLong
			}
			m := api.Module{Types: []api.FuncType{{Results: many32(8)}, {Params: many32(params), Results: many32(8)}}, Funcs: []api.Func{{}, {Type: 1, Locals: many32(locals)}, {Locals: many32(64)}}}
			of(t, m, e)
			m.Imports = []api.Import{{Type: 1}}
			of(t, m, e)
			m.Datas = []api.Data{{}}
			of(t, m, api.ErrIndex)
		}
	}
	of(t, api.Module{Types: []api.FuncType{{Params: many32(65)}}, Imports: []api.Import{{}}}, api.OK)
	of(t, api.Module{Types: []api.FuncType{{Params: many32(65), Results: many32(65)}}}, api.OK)
	of(t, api.Module{Types: []api.FuncType{{Results: many32(65)}}, Funcs: []api.Func{{}}}, api.OK)
}

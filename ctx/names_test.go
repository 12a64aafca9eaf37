package ctx

import (
	"math"
	"slices"
	"testing"

	"trammel/api"
)

// P9.2: Type of functions that are imported, own, below 0 and beyond.
func TestType(t *testing.T) {
	full, _ := Of(full())
	bare := api.Ctx{Types: shapes(), Funcs: []int{2, 4, -1, 0, math.MaxInt, math.MinInt, 3}}
	for _, c := range []struct {
		c  api.Ctx
		f  int
		is int // a type of shapes; -1: none
	}{
		{full, 0, 3}, {full, 1, 0}, {full, 2, 0}, {full, 3, 1}, {full, 4, 2}, {full, 5, -1}, {full, 6, -1}, {full, -1, -1}, {full, -2, -1}, {full, math.MaxInt, -1}, {full, math.MinInt, -1}, {full, 1 << 32, -1},
		{bare, 0, 2}, {bare, 1, -1}, {bare, 2, -1}, {bare, 3, 0}, {bare, 4, -1}, {bare, 5, -1}, {bare, 6, 3}, {bare, 7, -1},
		{api.Ctx{}, 0, -1}, {api.Ctx{}, -1, -1}, {api.Ctx{Types: shapes()}, 0, -1}, {api.Ctx{Funcs: []int{0}}, 0, -1}, {api.Ctx{Types: shapes(), Hosts: 9}, 0, -1},
	} {
		var want api.FuncType
		if c.is >= 0 {
			want = shapes()[c.is]
		}
		if f, ok := Type(c.c, c.f); ok != (c.is >= 0) || !sameType(f, want) {
			t.Errorf("Type(%+v, %d) = %+v, %v", c.c, c.f, f, ok)
		}
	}
}

// P9.2: Block of each number near those that are block types. Which functions there are doesn't
// matter.
func TestBlock(t *testing.T) {
	for _, c := range []api.Ctx{{}, {Types: shapes()[:1]}, {Types: shapes()}, {Types: shapes(), Funcs: []int{1, 0}}, {Types: slices.Repeat(shapes(), 50)}} {
		for n := -300; n < 300; n++ {
			block(t, c, n)
		}
		for _, n := range []int{math.MinInt, math.MaxInt, 1 << 31, 1<<32 - 1, 1 << 32, -1 << 32, 1<<32 + 0x7f, 0x40 - 1<<32} {
			block(t, c, n)
		}
	}
}

func block(t *testing.T, c api.Ctx, n int) {
	var want api.FuncType
	ok := true
	switch {
	case n == -64:
	case n == -1:
		want.Results = []int{0x7f}
	case n == -2:
		want.Results = []int{0x7e}
	case n >= 0 && n < len(c.Types):
		want = c.Types[n]
	default:
		ok = false
	}
	if b, is := Block(c, n); is != ok || !sameType(b, want) {
		t.Errorf("of %d types, Block(%d) = %+v, %v; want %+v, %v", len(c.Types), n, b, is, want, ok)
	}
}

// P9.2: Constant of each type, of globals of all kinds, and of what is no expression of one
// instruction.
func TestConstant(t *testing.T) {
	globals := []api.Var{{Type: api.I32}, {Type: api.I32, Mutable: true}, {Type: api.I64}, {Type: api.I64, Mutable: true}, {Type: api.I32}, {Type: api.I64}}
	c := api.Ctx{Globals: globals, Vars: 4}
	for _, x := range []struct {
		l    []api.Instr
		kind int // of which it is a constant; 0: of none
	}{
		{one(api.Const32, 0), api.I32}, {one(api.Const32, -1), api.I32}, {one(api.Const32, math.MinInt32), api.I32}, {one(api.Const64, 0), api.I64}, {one(api.Const64, math.MaxInt64), api.I64},
		{get(0), api.I32}, {get(1), 0}, {get(2), api.I64}, {get(3), 0}, {get(4), 0}, {get(5), 0}, {get(6), 0}, {get(7), 0}, {get(-1), 0}, {get(math.MaxInt), 0}, {get(math.MinInt), 0}, {get(1 << 32), 0},
		{nil, 0}, {[]api.Instr{}, 0}, {one(api.Const32, 0)[:1], 0}, {one(api.Const64, 0)[:1], 0}, {get(0)[:1], 0}, {one(api.End, 0)[:1], 0}, {one(api.End, 0), 0},
		{append(one(api.Const32, 0), api.Instr{Op: api.End}), 0}, {append(one(api.Const32, 0), api.Instr{Op: api.Const32}), 0}, {append([]api.Instr{{Op: api.Nop}}, one(api.Const32, 0)...), 0}, {append(get(0), api.Instr{Op: api.End}), 0}, {append([]api.Instr{{Op: api.Const32}}, one(api.Drop, 0)...), 0},
		{[]api.Instr{{Op: api.Const32}, {Op: api.Const32}}, 0}, {[]api.Instr{{Op: api.Const32}, {Op: api.Else}}, 0}, {[]api.Instr{{Op: api.Const64}, {Op: api.Return}}, 0}, {[]api.Instr{{Op: api.End}, {Op: api.Const32}}, 0}, {make([]api.Instr, 2), 0},
		{one(api.Unreachable, 0), 0}, {one(api.LocalGet, 0), 0}, {one(api.GlobalSet, 0), 0}, {one(api.MemSize, 0), 0}, {one(api.Call, 0), 0}, {one(0x43, 0), 0}, {one(0x44, 0), 0}, {one(0xd0, 0), 0}, {one(0xd2, 0), 0}, {one(-1, 0), 0}, {one(0x40, 0), 0}, {one(0x22, 0), 0},
		{[]api.Instr{{Op: api.Const32}, {Op: api.Const32}, {Op: 0x6a}, {Op: api.End}}, 0},
	} {
		for _, kind := range []int{api.I32, api.I64, 0, -1, -2, 0x70, 0x7d, math.MinInt} {
			if got := Constant(c, x.l, kind); got != (x.kind == kind && kind != 0) {
				t.Errorf("Constant(%+v, %x) = %v", x.l, kind, got)
			}
		}
	}
}

// P9.2: which globals are imported is said by their number, that may be beyond those that are there.
func TestImportedGlobals(t *testing.T) {
	globals := []api.Var{{Type: api.I32}, {Type: api.I32}, {Type: api.I32}}
	for _, vars := range []int{math.MinInt, -1, 0, 1, 2, 3, 4, math.MaxInt} {
		for _, g := range []int{-1, 0, 1, 2, 3, 4} {
			want := g >= 0 && g < vars && g < 3
			if got := Constant(api.Ctx{Globals: globals, Vars: vars}, get(g), api.I32); got != want {
				t.Errorf("of %d, %d: %v", vars, g, got)
			}
		}
	}
	if Constant(api.Ctx{}, get(0), api.I32) || Constant(api.Ctx{Vars: 1}, get(0), api.I32) || !Constant(api.Ctx{}, one(api.Const64, 1), api.I64) {
		t.Error("of no globals")
	}
}

// chance is numbers that follow one another by a rule, so that each run has the same.
type chance struct{ state uint64 }

func (c *chance) below(n int) int {
	c.state = c.state*6364136223846793005 + 1442695040888963407
	return int(c.state >> 33 % uint64(n))
}

// of one: mostly a right one, and now and then another.
func pick[T any](c *chance, right []T, others ...T) T {
	if len(others) > 0 && c.below(12) == 0 {
		return others[c.below(len(others))]
	}
	return right[c.below(len(right))]
}

func several[T any](c *chance, most int, make func() T) []T {
	var l []T
	for range c.below(most + 1) {
		l = append(l, make())
	}
	return l
}

func (c *chance) number(most int) int {
	var right []int
	for n := range most {
		right = append(right, n)
	}
	if most < 1 {
		right = []int{0}
	}
	return pick(c, right, -1, -2, most, most+1, math.MinInt, math.MaxInt, 1<<32)
}

func (c *chance) kind() int { return pick(c, []int{api.I32, api.I64}, 0, 0x70, -1) }

func (c *chance) limits() api.Limits {
	return api.Limits{Min: pick(c, []int{0, 1, 3, 4}, -1, 5, 64, 65, 65536, 65537), Capped: c.below(3) == 0, Max: pick(c, []int{4, 64, 65536}, 3, 0, -1, 65537)}
}

func (c *chance) constant(kind int) []api.Instr {
	return pick(c, [][]api.Instr{map[int][]api.Instr{api.I32: one(api.Const32, 3), api.I64: one(api.Const64, 3)}[kind], get(c.below(3))}, nil, one(api.Const64, 1), get(0)[:1], get(-1), one(api.Nop, 0), append(one(api.Const32, 1), api.Instr{}))
}

// module of few things each, so that what one names is there as often as not.
func (c *chance) module() api.Module {
	m := api.Module{Types: shapes()[:1+c.below(4)]}
	m.Imports = several(c, 4, func() api.Import {
		return api.Import{Kind: pick(c, []int{0, 3, 3, 1, 2}, 4, -1), Type: pick(c, []int{0, c.below(len(m.Types)), api.I32}), Limits: c.limits(), Mutable: c.below(3) == 0}
	})
	for i, x := range m.Imports {
		if x.Kind == 3 {
			m.Imports[i].Type = c.kind()
		} else if x.Kind == 0 {
			m.Imports[i].Type = c.number(len(m.Types))
		}
	}
	m.Funcs = several(c, 3, func() api.Func {
		return api.Func{Type: c.number(len(m.Types)), Locals: many32(pick(c, []int{0, 1, 62}, 63, 64, 65))}
	})
	m.Tables = several(c, pick(c, []int{0, 1}, 2), c.limits)
	m.Mems = several(c, pick(c, []int{0, 1}, 2), c.limits)
	if c.below(3) == 0 {
		m.Globals = several(c, 2, func() api.Global {
			kind := c.kind()
			return api.Global{Type: kind, Mutable: c.below(2) == 0, Init: c.constant(kind)}
		})
	}
	m.Exports = several(c, 2, func() api.Export {
		kind := pick(c, []int{0, 1, 2, 3}, -1, 4)
		return api.Export{Name: pick(c, []string{"a", "b", "c", "d"}), Kind: kind, Index: c.number(many(m, kind))}
	})
	if c.below(3) == 0 {
		m.Starts = []int{c.number(many(m, 0))}
	}
	m.Elems = several(c, 2, func() api.Elem {
		return api.Elem{Mode: pick(c, []int{0, 1, 2}, 3), Offset: c.constant(api.I32), Funcs: several(c, 3, func() int { return c.number(many(m, 0)) })}
	})
	m.Datas = several(c, 2, func() api.Data { return api.Data{Mode: pick(c, []int{0, 1}, 2), Offset: c.constant(api.I32)} })
	m.Counts = several(c, 1, func() int { return len(m.Datas) })
	return m
}

// P9.1: modules of all kinds against the model. Each error of each kind is met, and right modules.
func TestChance(t *testing.T) {
	c := &chance{state: 9}
	met := map[fault]int{}
	for range 200000 {
		m := c.module()
		want, f := modelFault(m)
		f.place = 0
		met[f]++
		if got, e := Of(m); e != f.e || !sameCtx(got, want) {
			t.Fatalf("Of(%+v) = %+v, %d; want %+v, %d", m, got, e, want, f.e)
		}
	}
	for _, f := range []fault{
		{}, {1, 0, 0, api.ErrIndex}, {1, 0, 0, api.ErrArg}, {1, 0, 1, api.ErrLong}, {2, 0, 0, api.ErrIndex}, {3, 0, 0, api.ErrArg}, {3, 0, 1, api.ErrLong}, {4, 0, 0, api.ErrArg}, {4, 0, 1, api.ErrLong}, {5, 0, 0, api.ErrWide}, {5, 0, 1, api.ErrTwice}, {6, 0, 0, api.ErrType},
		{7, 0, 0, api.ErrTwice}, {7, 0, 1, api.ErrIndex}, {8, 0, 0, api.ErrIndex}, {8, 0, 1, api.ErrType}, {9, 0, 0, api.ErrIndex}, {9, 0, 1, api.ErrType}, {9, 0, 2, api.ErrIndex}, {10, 0, 0, api.ErrIndex}, {10, 0, 1, api.ErrType}, {11, 0, 0, api.ErrLong},
	} {
		if met[f] < 30 {
			t.Errorf("%+v was met %d times", f, met[f])
		}
	}
}

// P9.1: modules that no bytes say, lists of nothing, and long ones: a call answers.
func TestUnformed(t *testing.T) {
	of(t, api.Module{Types: []api.FuncType{}, Imports: []api.Import{}, Funcs: []api.Func{}, Tables: []api.Limits{}, Mems: []api.Limits{}, Globals: []api.Global{}, Exports: []api.Export{}, Starts: []int{}, Elems: []api.Elem{}, Counts: []int{}, Datas: []api.Data{}, Customs: []api.Custom{}}, api.OK)
	for _, kind := range []int{-1, 4, 256, math.MinInt, math.MaxInt} {
		gives(t, api.Module{Imports: []api.Import{{Kind: kind, Type: 9, Limits: api.Limits{Min: -1}}}}, api.Ctx{})
		gives(t, api.Module{Elems: []api.Elem{{Mode: kind}}, Datas: []api.Data{{Mode: kind}}}, api.Ctx{Elems: 1, Datas: 1})
	}
	of(t, api.Module{Types: []api.FuncType{{Params: []int{-1}}}, Funcs: []api.Func{{Locals: []int{77}}}}, api.OK)
	gives(t, api.Module{Types: []api.FuncType{{Params: []int{-1}, Results: []int{0}}}, Counts: []int{7, 8}}, api.Ctx{Types: []api.FuncType{{Params: []int{-1}, Results: []int{0}}}, Counted: true})
	gives(t, api.Module{Imports: []api.Import{{Kind: api.Glo, Type: -5}}}, api.Ctx{Globals: []api.Var{{Type: -5}}, Vars: 1})
	many := slices.Repeat([]api.Func{{Type: 1}}, 5000)
	gives(t, api.Module{Types: shapes(), Funcs: many, Elems: make([]api.Elem, 0)}, api.Ctx{Types: shapes(), Funcs: slices.Repeat([]int{1}, 5000)})
	of(t, api.Module{Starts: []int{math.MinInt, math.MaxInt}}, api.ErrIndex)
	of(t, api.Module{Elems: make([]api.Elem, 5000)}, api.ErrIndex)
	of(t, api.Module{Datas: make([]api.Data, 5000)}, api.ErrIndex)
	of(t, api.Module{Globals: make([]api.Global, 5000)}, api.ErrType)
	of(t, api.Module{Exports: make([]api.Export, 500)}, api.ErrIndex)
}

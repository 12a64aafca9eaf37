package inst_test

import (
	"math"
	"slices"
	"testing"

	"trammel/api"
	"trammel/inst"
)

// chance is numbers that follow one another by a rule, so that each run has the same.
type chance struct{ state uint64 }

func (c *chance) below(n int) int {
	c.state = c.state*6364136223846793005 + 1442695040888963407
	return int(c.state >> 33 % uint64(n))
}

// pick a right one, and now and then another.
func pick[T any](c *chance, right []T, others ...T) T {
	if len(others) > 0 && c.below(20) == 0 {
		return others[c.below(len(others))]
	}
	return right[c.below(len(right))]
}

func several[T any](c *chance, most int, make func() T) []T {
	var l []T
	for range c.below(most + 1) {
		l = append(l, make())
	}
	return l
}

func (c *chance) limits(most int) api.Limits {
	l := api.Limits{Min: pick(c, []int{0, 1, most / 2, most}, -1, most+1, 65537), Capped: c.below(2) == 0}
	l.Max = pick(c, []int{max(l.Min, most), l.Min + 1, 65536}, -1, l.Min-1, math.MaxInt)
	return l
}

func (c *chance) kind() int { return pick(c, []int{api.I32, api.I64}) }

// given for an import, so that it mostly fits.
func (c *chance) given(x api.Import) api.Given {
	if x.Kind == api.Glo {
		values := []uint64{0, 1, 5, 63, 65535, 65536, 262143, 1<<32 - 1}
		if x.Type == api.I64 {
			values = append(values, 1<<32, math.MaxUint64)
		}
		return api.Given{Type: pick(c, []int{x.Type}, api.I32, api.I64, 0), Mutable: pick(c, []bool{x.Mutable}, !x.Mutable), Value: pick(c, values, 1<<32, 1<<63)}
	}
	g := api.Given{Size: pick(c, []int{x.Limits.Min, x.Limits.Min, min(x.Limits.Min+1, 4)}, -1, x.Limits.Min-1, 5, 64, 65)}
	g.Capped = pick(c, []bool{true}, false)
	if !x.Limits.Capped {
		g.Capped = c.below(2) == 0
	}
	g.Max = pick(c, []int{x.Limits.Max}, g.Size, g.Size-1, x.Limits.Max+1, math.MinInt, math.MaxInt)
	return g
}

func (c *chance) constant(kind int, vars []api.Var) []api.Instr {
	own := slices.Index(vars, api.Var{Type: kind})
	if own >= 0 && c.below(2) == 0 {
		return get(own)
	}
	if kind == api.I64 {
		return expr(api.Const64, pick(c, []int64{0, -1, 1 << 40, math.MinInt64}))
	}
	return pick(c, [][]api.Instr{at(0), at(1), at(3), at(2)}, at(4), at(60), at(65533), at(65536), at(-1), at(1<<32+2), expr(api.Const64, 0), get(0), nil)
}

// module of few things, with what is given for its imports.
func (c *chance) module() (api.Module, []api.Given) {
	m := api.Module{Types: []api.FuncType{{}}, Funcs: make([]api.Func, c.below(3)), Imports: several(c, 4, c.asked)}
	if c.below(2) == 0 {
		m.Imports = append(m.Imports, api.Import{Kind: api.Tab, Limits: c.limits(6)})
	} else if c.below(3) > 0 {
		m.Tables = []api.Limits{c.limits(6)}
	}
	if c.below(2) == 0 {
		m.Imports = append(m.Imports, api.Import{Kind: api.Mem, Limits: c.limits(2)})
	} else if c.below(3) > 0 {
		m.Mems = []api.Limits{c.limits(2)}
	}
	for i := range m.Imports {
		j := c.below(len(m.Imports))
		m.Imports[i], m.Imports[j] = m.Imports[j], m.Imports[i]
	}
	var gives []api.Given
	var vars []api.Var
	funcs := len(m.Funcs)
	for _, x := range m.Imports {
		if x.Kind != api.Fn {
			gives = append(gives, c.given(x))
		} else {
			funcs++
		}
		if x.Kind == api.Glo {
			vars = append(vars, api.Var{Type: x.Type, Mutable: x.Mutable})
		}
	}
	c.parts(&m, vars, funcs)
	return m, pick(c, [][]api.Given{gives}, append(gives, api.Given{}), gives[min(1, len(gives)):])
}

// asked is a function or a global from outside.
func (c *chance) asked() api.Import {
	if c.below(3) == 0 {
		return pick(c, []api.Import{{}}, api.Import{Kind: 4})
	}
	return api.Import{Kind: api.Glo, Type: c.kind(), Mutable: c.below(3) == 0}
}

func (c *chance) parts(m *api.Module, vars []api.Var, funcs int) {
	has := func(kind, own int) bool {
		return own > 0 || slices.ContainsFunc(m.Imports, func(x api.Import) bool { return x.Kind == kind })
	}
	m.Globals = several(c, 3, func() api.Global {
		kind := c.kind()
		return api.Global{Type: kind, Mutable: c.below(2) == 0, Init: c.constant(kind, vars)}
	})
	mode := func(there bool) int {
		if !there {
			return 1 + c.below(3)
		}
		return pick(c, []int{0, 0, 0, 1, 2}, 3, -1)
	}
	m.Elems = several(c, 3, func() api.Elem {
		f := several(c, 2, func() int { return pick(c, []int{-1, funcs - 1, c.below(funcs + 1)}) })
		return api.Elem{Mode: mode(has(api.Tab, len(m.Tables))), Offset: c.constant(api.I32, vars), Funcs: f}
	})
	m.Datas = several(c, 3, func() api.Data {
		b := several(c, 3, func() byte { return byte(1 + c.below(255)) })
		return api.Data{Mode: mode(has(api.Mem, len(m.Mems))), Offset: c.constant(api.I32, vars), Bytes: b}
	})
}

// P13.1: modules of all kinds with all kinds of givens, against the model.
func TestSetupChance(t *testing.T) {
	c := &chance{13}
	met := map[[2]int]int{}
	for range 20000 {
		m, gives := c.module()
		_, trap, e := setup(t, m, gives)
		met[[2]int{trap, int(e)}]++
		if t.Failed() {
			break
		}
	}
	for _, ends := range [][2]int{{0, 0}, {api.TrapTable, 0}, {api.TrapMemory, 0}, {0, int(api.ErrArg)}} {
		if met[ends] < 500 {
			t.Errorf("%v was met %d times", ends, met[ends])
		}
	}
	if len(met) != 4 {
		t.Error(met)
	}
}

// P13.1 to P13.3: stores and modules of any numbers: a call answers, and the model's answer.
func TestAnyNumbers(t *testing.T) {
	c := &chance{31}
	number := func() int {
		return pick(c, []int{0, 1, 2, 3, 4, -1}, 64, 65, 65536, 65537, 1<<32-1, 1<<32, math.MinInt, math.MaxInt)
	}
	great := func() uint64 {
		return pick(c, []uint64{0, 1, 2, 3}, 65536, 1<<32-1, 1<<32, 1<<48, 1<<63, math.MaxUint64-1, math.MaxUint64)
	}
	limits := func() api.Limits {
		return api.Limits{Min: number(), Capped: c.below(2) == 0, Max: number()}
	}
	for range 20000 {
		s := api.Store{
			Memory: make([]byte, pick(c, []int{0, 1, 5}, 65535, 65536, 100000)), Cap: number(), Table: several(c, 4, number),
			Globals: several(c, 2, great), Elems: make([]bool, c.below(3)), Datas: make([]bool, c.below(3)),
		}
		f, b := several(c, 4, number), make([]byte, c.below(5))
		at, from, n := great(), great(), great()
		table, ok := modelLay(s.Table, f, at, from, n)
		if got, is := inst.Lay(s, f, at, from, n); is != ok || !slices.Equal(got.Table, table) || len(got.Globals) > len(s.Globals) {
			t.Fatalf("Lay(%+v, %v, %d, %d, %d) = %+v, %v", s, f, at, from, n, got, is)
		}
		memory, ok := modelLay(s.Memory, b, at, from, n)
		if got, is := inst.Put(s, b, at, from, n); is != ok || !slices.Equal(got.Memory, memory) {
			t.Fatalf("Put(%d, %d, %d, %d, %d): %v", len(s.Memory), len(b), at, from, n, is)
		}
		grows := c.below(5) > 0
		want, were := modelGrow(s, n, grows)
		if got, is := inst.Grow(s, n, grows); is != were || !same(got, want) {
			t.Fatalf("Grow(%d, %d, %d, %v): %d, %d", len(s.Memory), s.Cap, n, grows, len(got.Memory), is)
		}
		m := api.Module{
			Imports: several(c, 3, func() api.Import {
				return api.Import{Kind: pick(c, []int{0, 1, 2, 3}, -1, 4), Type: number(), Limits: limits()}
			}),
			Tables: several(c, 1, limits), Mems: several(c, 1, limits), Starts: several(c, 1, number),
			Globals: several(c, 1, func() api.Global { return api.Global{Type: number(), Init: get(number())} }),
			Elems:   several(c, 1, func() api.Elem { return api.Elem{Mode: number(), Offset: get(number()), Funcs: several(c, 2, number)} }),
			Datas:   several(c, 1, func() api.Data { return api.Data{Mode: number(), Offset: get(number())} }),
		}
		setup(t, m, several(c, 3, func() api.Given {
			return api.Given{Size: number(), Capped: c.below(2) == 0, Max: number(), Type: number(), Value: great()}
		}))
	}
}

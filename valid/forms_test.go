package valid

import (
	"math"
	"reflect"
	"slices"
	"strings"
	"testing"

	"trammel/api"
)

// says holds Body against what is written out, of functions that are no texts.
func says(t *testing.T, c api.Ctx, f api.Func, e api.Errno) {
	t.Helper()
	if got := Body(c, f); got != e {
		t.Errorf("Body(%+v, %.300v) = %d, want %d", c, f, got, e)
	}
	nops(t, c, f, e)
}

// P10.1: what is no body is ErrForm, whatever ahead of the place where it isn't.
func TestNotClosed(t *testing.T) {
	for _, text := range []string{
		"", "nop", "i32", "block; end", "block; loop; end; end", "i32; if; else; end", "end; end", "end; nop", "unreachable", "return", "br 0", "unreachable; end; unreachable; end",
		"else; end", "block; else; end; end", "loop; else; end; end", "i32; if; else; else; end; end", "i32; if; block; else; end; end; end", "i32; if; end; else; end", "drop; block", "call 99; else; end", "global.set 0; nop",
		"br -1; end", "br_if -1; end", "br_table -1; end", "br_table -1 0; end", "br_table 0 -1 0; end", "call -1; end", "call_indirect -1 0; end", "call_indirect 0 -1; end", "local.get -1; end", "local.set -1; end", "local.tee -1; end", "global.get -1; end", "global.set -1; end",
		"block -3; end; end", "block -63; end; end", "loop -65; end; end", "if -7; end; end", "28 -1 0; end", "28 0 -1; end", "3e -1 -1; end", "memory.init -1; end", "data.drop -1; end", "table.init -1 0; end", "table.init 0 -1; end", "table.copy -1 0; end", "table.copy 0 -1; end", "elem.drop -1; end",
		"br 4294967296; end", "call 4294967296; end", "block 4294967296; end; end", "28 4294967296 0; end", "28 0 4294967296; end", "i32 2147483648; end", "i32 -2147483649; end",
		"1c; end", "25; end", "43; end", "5b; end", "8b; end", "a8; end", "ae; end", "c5; end", "d0; end", "d2; end", "fc; end", "fd; end", "100; end", "107; end", "10f; end", "112; end", "200; end", "201; end", "-1; end", "6; end", "12; end",
		"nop 1; end", "end 1", "drop 1; end", "add 1; end", "memory.size 1; end", "data.drop 0 1; end", "br 0 1; end", "memory.copy 0 1; end", "nop; unreachable 0 1; end",
	} {
		in(t, world(), ":", "", text, api.ErrForm)
		in(t, world(), ":", "", "drop; "+text, api.ErrForm)
		in(t, world(), ":i", "", "unreachable; "+text, api.ErrForm)
	}
	for _, x := range []api.Instr{
		{Op: math.MinInt}, {Op: math.MaxInt}, {Op: 1 << 32}, {Op: 0x6a, K: 1}, {Op: api.Nop, L: []int{0}}, {Op: api.Br, L: []int{0}}, {Op: api.Br, A: math.MaxInt}, {Op: api.Br, A: math.MinInt}, {Op: api.BrTable, L: []int{math.MaxInt}}, {Op: api.BrTable, L: []int{math.MinInt}},
		{Op: api.Block, A: math.MinInt}, {Op: api.Const64, A: 1}, {Op: api.Const32, K: math.MaxInt64}, {Op: 0x28, A: math.MinInt}, {Op: 0x28, B: math.MaxInt}, {Op: api.LocalGet, K: 1},
	} {
		says(t, world(), api.Func{Body: []api.Instr{x, {Op: api.End}}}, api.ErrForm)
		says(t, world(), api.Func{Body: []api.Instr{{Op: api.Unreachable}, {Op: api.End}, x}}, api.ErrForm)
	}
}

// P10.1: a body has MaxBody instructions at most.
func TestLong(t *testing.T) {
	long := func(n int, ops ...int) api.Func {
		f := api.Func{Body: make([]api.Instr, 0, n)}
		for len(f.Body) < n-1 {
			f.Body = append(f.Body, api.Instr{Op: ops[len(f.Body)%len(ops)]})
		}
		f.Body = append(f.Body, api.Instr{Op: api.End})
		return f
	}
	for _, x := range []struct {
		f api.Func
		e api.Errno
	}{
		{long(api.MaxBody, api.Nop), api.OK}, {long(api.MaxBody+1, api.Nop), api.ErrForm}, {long(api.MaxBody, api.Unreachable), api.OK}, {long(api.MaxBody+1, api.Unreachable), api.ErrForm},
		{long(api.MaxBody-1, api.Const64, api.Drop), api.OK}, {long(api.MaxBody, api.Const64, api.Drop), api.ErrType}, {long(api.MaxBody, api.Const32), api.ErrType}, {long(api.MaxBody+1, api.Drop), api.ErrForm}, {long(api.MaxBody, api.Nop, api.Nop, api.Drop), api.ErrType},
	} {
		if got := Body(world(), x.f); got != x.e {
			t.Errorf("%d of %d: %d, want %d", len(x.f.Body), x.f.Body[0].Op, got, x.e)
		}
	}
}

// P10.1: a function whose type is none is ErrForm, with a body that is closed or not, right or not.
func TestNoType(t *testing.T) {
	many := []int{-1, -2, api.Empty, -3, 4, 5, api.I32, math.MaxInt, math.MinInt, 1 << 32}
	for _, n := range many {
		for _, text := range []string{"end", "", "unreachable; end", "i32; end", "drop; end", "call 77; end"} {
			c := world()
			says(t, c, api.Func{Type: n, Body: body(&c, text)}, api.ErrForm)
		}
	}
	end := []api.Instr{{Op: api.End}}
	says(t, world(), api.Func{Type: 0, Body: end}, api.OK)
	says(t, world(), api.Func{Type: 3, Body: end}, api.ErrType)
	says(t, api.Ctx{}, api.Func{Body: end}, api.ErrForm)
	says(t, api.Ctx{Funcs: []int{0}}, api.Func{Body: end}, api.ErrForm)
	says(t, api.Ctx{Types: make([]api.FuncType, 1)}, api.Func{Body: end}, api.OK)
	says(t, api.Ctx{Types: make([]api.FuncType, 1)}, api.Func{Type: 1, Body: end}, api.ErrForm)
}

// P10.1: a function's locals are its parameters, and then its further ones.
func TestLocals(t *testing.T) {
	for _, x := range []struct {
		own, locals, text string
		e                 api.Errno
	}{
		{"i:i", "", "local.get 0", fine}, {"I:i", "", "local.get 0", misfits}, {":i", "i", "local.get 0", fine}, {":i", "I", "local.get 0", misfits}, {":i", "", "local.get 0", absent}, {"i:i", "", "local.get 1", absent}, {":i", "i", "local.get 1", absent},
		{"i:I", "I", "local.get 1", fine}, {"i:I", "I", "local.get 0", misfits}, {"i:i", "I", "local.get 0", fine}, {"i:i", "I", "local.get 2", absent}, {"I:i", "i", "local.get 1", fine}, {"iI:I", "iI", "local.get 3", fine}, {"iI:I", "iI", "local.get 2", misfits}, {"iI:I", "iI", "local.get 1", fine}, {"iI:i", "iI", "local.get 4", absent},
		{"iI:", "iI", "i32; local.set 0; i64; local.set 1; i32; local.set 2; i64; local.set 3", fine}, {"iI:", "iI", "i64; local.set 2", misfits}, {"iI:", "iI", "i32; local.set 3", misfits}, {"iI:", "iI", "i32; local.set 4", absent}, {"iI:", "", "i32; local.set 1", misfits},
		{"iI:iI", "", "i32; local.tee 0; i64; local.tee 1", fine}, {"iI:iI", "", "i32; local.tee 0; i32; local.tee 1", misfits}, {":I", "I", "i64; local.tee 0; local.tee 0", fine}, {":", "I", "i64; local.tee 0; local.set 0", fine}, {":", "I", "i64; local.tee 0", misfits}, {":", "I", "i64; local.tee 1; drop", absent}, {":i", "I", "unreachable; local.tee 0", misfits}, {":I", "I", "unreachable; local.tee 0", fine}, {":i", "I", "unreachable; local.get 0", misfits},
		{"iIiIiIiI:I", strings.Repeat("i", 56), "local.get 7", fine}, {"iIiIiIiI:i", strings.Repeat("i", 56), "local.get 63", fine}, {"iIiIiIiI:i", strings.Repeat("i", 56), "local.get 64", absent}, {":i", strings.Repeat("I", 200) + "i", "local.get 200", fine}, {":i", strings.Repeat("I", 200) + "i", "local.get 201", absent},
		{"i:i", "", "block; local.get 0; drop; end; loop :i; local.get 0; end", fine}, {":", "", "local.set 0", absent}, {":", "", "local.tee 0", absent},
	} {
		in(t, world(), x.own, x.locals, x.text+"; end", x.e)
	}
}

// P10.1: types that are no values' types are types as others are: they fit themselves alone, and
// none of them is any type.
func TestOddTypes(t *testing.T) {
	for _, odd := range []int{0, 1, -1, -2, 0x70, 0x7d, api.Empty, math.MinInt, math.MaxInt} {
		c := world()
		c.Types = []api.FuncType{{}, {Params: []int{odd}, Results: []int{odd}}, {Results: []int{api.I32}}, {Params: []int{api.I64, odd}, Results: []int{odd, api.I64}}, {Results: []int{odd}}}
		c.Funcs = []int{0, 1, 3}
		c.Globals = []api.Var{{Type: odd, Mutable: true}}
		for _, x := range []struct {
			kind int
			text string
			e    api.Errno
		}{
			{1, "local.get 0", fine}, {1, "i32", misfits}, {1, "i64", misfits}, {2, "local.get 0", misfits}, {1, "unreachable", fine}, {1, "local.get 0; call 1; call 1", fine}, {1, "i32; call 1", misfits}, {1, "local.get 0; eqz", misfits}, {2, "local.get 0; eqz", misfits}, {2, "local.get 0; i64.eqz", misfits},
			{1, "local.get 0; local.get 0; i32; select", fine}, {1, "i32; local.get 0; i32; select", misfits}, {1, "local.get 0; i64; i32; select", misfits}, {1, "unreachable; local.get 0; i32; select", fine}, {2, "unreachable; local.get 0; i32; select", misfits}, {2, "unreachable; i32; local.get 0; i32; select", misfits},
			{1, "global.get 0; global.set 0; global.get 0", fine}, {1, "i32; global.set 0; global.get 0", misfits}, {1, "block 1; end", misfits}, {1, "local.get 0; block 1; end", fine}, {1, "block 4; local.get 0; end", fine}, {1, "block 4; i32; end", misfits}, {1, "local.get 0; loop 1; br 0; end", fine}, {1, "local.get 0; i32; br_if 0", fine}, {1, "local.get 0; i32; br_table 0 0", fine}, {1, "i64; i32; br_table 0 0", misfits},
			{3, "local.get 1; local.get 0", fine}, {3, "local.get 0; local.get 1", misfits}, {3, "local.get 0; local.get 1; call 2", fine}, {3, "local.get 1; local.get 0; call 2", misfits}, {3, "local.get 0; local.get 1; local.get 1; br_if 0", misfits},
		} {
			if f := (api.Func{Type: x.kind, Locals: []int{odd}, Body: body(&c, x.text+"; end")}); x.e != Body(c, f) {
				t.Errorf("%d: %s: %d, want %d", odd, x.text, Body(c, f), x.e)
			} else {
				nops(t, c, f, x.e)
			}
		}
	}
}

// P10.1: contexts that are not formed, lists of nothing, and what is far beyond: a call answers.
func TestUnformed(t *testing.T) {
	empty := api.Ctx{Types: []api.FuncType{}, Funcs: []int{}, Globals: []api.Var{}, Tables: []api.Limits{}, Mems: []api.Limits{}}
	odd := world()
	odd.Funcs = []int{-1, math.MinInt, math.MaxInt, 4, 0}
	odd.Hosts, odd.Vars, odd.Elems, odd.Datas = math.MinInt, math.MaxInt, math.MaxInt, math.MinInt
	odd.Tables, odd.Mems = []api.Limits{{Min: -1, Capped: true, Max: -9}, {}}, []api.Limits{{Min: math.MaxInt}, {}}
	for op := -3; op < 0x210; op++ {
		for _, n := range []int{math.MinInt, -64, -1, 0, 1, 3, 7, math.MaxUint32, math.MaxInt} {
			x := api.Instr{Op: op, A: n, B: n}
			for _, l := range [][]api.Instr{nil, {x}, {x, {Op: api.End}}, {{Op: api.Unreachable}, x, {Op: api.End}}, {x, {Op: api.End}, {Op: api.End}}, {{Op: op, A: n}, {Op: api.End}}, {{Op: op, A: n}, {Op: api.End}, {Op: api.End}}, {{Op: op, L: []int{n}}, {Op: api.End}}, {{Op: op, K: int64(n)}, {Op: api.End}}} {
				for _, c := range []api.Ctx{{}, empty, odd, world()} {
					f := api.Func{Body: l}
					if got, want := Body(c, f), modelBody(c, f); got != want {
						t.Errorf("%x, %d: %d, want %d", op, n, got, want)
					}
				}
			}
		}
	}
	for text, e := range map[string]api.Errno{"call 4": fine, "call 0": absent, "call 2": absent, "call 3": absent, "call 5": absent, "i32; call_indirect 0 1": fine, "i32; call_indirect 0 2": absent, "i32; i32; i32; table.init 77 1": fine, "data.drop 0": absent, "memory.size; drop": fine} {
		in(t, odd, ":", "", text+"; end", e)
	}
	says(t, world(), api.Func{Locals: []int{}, Body: []api.Instr{}}, api.ErrForm)
	says(t, world(), api.Func{Locals: []int{math.MinInt}, Body: []api.Instr{{Op: api.LocalGet}, {Op: api.Drop}, {Op: api.End, L: []int{}}}}, fine)
	huge := api.FuncType{Params: slices.Repeat([]int{api.I32}, 100000), Results: slices.Repeat([]int{api.I64}, 100000)}
	wide := api.Ctx{Types: []api.FuncType{huge, {}}, Funcs: []int{0}}
	for text, e := range map[string]api.Errno{"unreachable; call 0; br 0": fine, "i64; call 0; br 0": misfits, "br 0": misfits, "unreachable; i64; call 0": misfits, "unreachable; call 0": fine, "local.get 99999; drop; unreachable": fine, "local.get 100000; drop; unreachable": absent} {
		says(t, wide, api.Func{Type: 0, Body: body(&wide, text+"; end")}, e)
	}
}

// P10.2: the first error of the bodies, in order, in the context that is given.
func TestAll(t *testing.T) {
	c := world()
	f := func(own, text string) api.Func { return api.Func{Type: typed(&c, own), Body: body(&c, text+"; end")} }
	right, typ, arg, index, form := f(":", "nop"), f(":i", "i64"), f(":", "global.set 0"), f(":", "call 9"), f(":", "else")
	for _, x := range []struct {
		l []api.Func
		e api.Errno
	}{
		{nil, fine}, {[]api.Func{}, fine}, {[]api.Func{right}, fine}, {[]api.Func{right, f(":i", "i32"), f("i:i", "local.get 0"), right}, fine},
		{[]api.Func{typ}, misfits}, {[]api.Func{arg}, api.ErrArg}, {[]api.Func{index}, absent}, {[]api.Func{form}, api.ErrForm}, {[]api.Func{{}}, api.ErrForm}, {[]api.Func{{Type: -1, Body: right.Body}}, api.ErrForm},
		{[]api.Func{right, typ}, misfits}, {[]api.Func{typ, right}, misfits}, {[]api.Func{right, right, right, index, right}, absent},
		{[]api.Func{typ, arg, index, form}, misfits}, {[]api.Func{arg, typ, form, index}, api.ErrArg}, {[]api.Func{right, index, arg, typ}, absent}, {[]api.Func{form, index, arg, typ}, api.ErrForm}, {[]api.Func{right, form, typ}, api.ErrForm}, {[]api.Func{right, typ, form}, misfits},
	} {
		if e := All(c, api.Module{Funcs: x.l}); e != x.e {
			t.Errorf("All of %+v: %d, want %d", x.l, e, x.e)
		}
		other := api.Module{Funcs: x.l, Types: []api.FuncType{sig("i:I")}, Globals: []api.Global{{Mutable: true}}, Starts: []int{9}}
		if e := All(c, other); e != x.e {
			t.Errorf("All of %+v, in a module of other parts: %d, want %d", x.l, e, x.e)
		}
	}
	if e := All(api.Ctx{}, api.Module{Types: c.Types, Funcs: []api.Func{right}}); e != api.ErrForm {
		t.Errorf("All in a context of nothing: %d", e)
	}
}

// roomy is a list with spare room that is not empty.
func roomy[T any](l []T, filling T) []T {
	out := append(slices.Clone(l), filling, filling, filling)
	return out[:len(l):len(out)]
}

func roomyType(t api.FuncType) api.FuncType {
	return api.FuncType{Params: roomy(t.Params, -7), Results: roomy(t.Results, -7)}
}

func roomyCtx(c api.Ctx) api.Ctx {
	types := slices.Clone(c.Types)
	for i, t := range types {
		types[i] = roomyType(t)
	}
	c.Types, c.Funcs, c.Globals = roomy(types, roomyType(api.FuncType{})), roomy(c.Funcs, -7), roomy(c.Globals, api.Var{Type: -7})
	c.Tables, c.Mems = roomy(c.Tables, api.Limits{Min: -7}), roomy(c.Mems, api.Limits{Min: -7})
	return c
}

func roomyFunc(f api.Func) api.Func {
	l := slices.Clone(f.Body)
	for i, x := range l {
		l[i].L = roomy(x.L, -7)
	}
	f.Body, f.Locals = roomy(l, api.Instr{Op: -7}), roomy(f.Locals, -7)
	return f
}

// wholly is what stands in all lists, up to the end of their room.
func wholly(c api.Ctx, f api.Func) []any {
	all := []any{c, f, c.Types[:cap(c.Types)], c.Funcs[:cap(c.Funcs)], c.Globals[:cap(c.Globals)], c.Tables[:cap(c.Tables)], c.Mems[:cap(c.Mems)], f.Locals[:cap(f.Locals)], f.Body[:cap(f.Body)]}
	for _, t := range c.Types {
		all = append(all, t.Params[:cap(t.Params)], t.Results[:cap(t.Results)])
	}
	for _, x := range f.Body {
		all = append(all, x.L[:cap(x.L)])
	}
	return all
}

// P10.1, P10.2: what is handed in stays as it is, its spare room too, and the same is told again.
func TestMemory(t *testing.T) {
	for _, x := range []struct {
		own, text string
	}{
		{"iI:iI", "local.get 0; local.get 1; call 3; local.set 1; local.tee 0; local.get 1"}, {":", "i32; br_table 0 0 0"}, {":i", "i32; i32; br_if 0; if; else; end; i32; return; block i:i; end"}, {":", "i32; i64; i32; call_indirect iI:Ii 0; drop; drop"}, {":i", "unreachable; br_table 0 0; select"},
		{":i", "i32; i64; block iI:i; drop; end"}, {":i", "i32; i64; loop iI:i; i32; br_if 0; drop; end"}, {":i", "i64"}, {":", "call 9"}, {"I:", "global.set 0"}, {":", "else"}, {":Ii", "unreachable; i32; i32; call_indirect iI:Ii 0"}, {":", "i32; i32; i32; memory.fill; i32; local.get 0"},
	} {
		made := func() (api.Ctx, api.Func) {
			c := world()
			f := api.Func{Type: typed(&c, x.own), Locals: values("iI"), Body: body(&c, x.text+"; end")}
			return roomyCtx(c), roomyFunc(f)
		}
		c, f := made()
		asC, asF := made()
		first := Body(c, f)
		if All(c, api.Module{Funcs: []api.Func{f, f}}) != first || Body(c, f) != first || modelBody(c, f) != first {
			t.Errorf("%s: not %d again", x.text, first)
		}
		if !reflect.DeepEqual(wholly(c, f), wholly(asC, asF)) {
			t.Errorf("%s: what was handed in is another", x.text)
		}
	}
}

package load

import (
	"bytes"
	"slices"
	"testing"

	"trammel/api"
	"trammel/mod"
)

// chance is numbers that follow one another by a rule, so that each run has the same.
type chance uint64

func (c *chance) below(n int) int {
	*c = *c*6364136223846793005 + 1442695040888963407
	return int(uint64(*c) >> 33 % uint64(n))
}

func (c *chance) odd() bool { return c.below(2) == 1 }

func (c *chance) val() int { return 0x7e + c.below(2) }

func some[T any](c *chance, most int, one func() T) []T {
	var l []T
	for range c.below(most + 1) {
		l = append(l, one())
	}
	return l
}

func (c *chance) name() string {
	return []string{"", "a", "\xc3\xa9", "memory", "\x00", "\xf0\x9f\x98\x80"}[c.below(6)]
}

func (c *chance) limits(most int) api.Limits {
	l := api.Limits{Min: c.below(most + 1)}
	if c.odd() {
		l.Capped, l.Max = true, l.Min+c.below(65536-most)
	}
	return l
}

// maker makes a module that is right, from the parts that are named to those that name them.
type maker struct {
	*chance
	m     api.Module
	funcs []int     // of each function its type
	given []api.Var // the imported globals
	vars  []api.Var // all of them
}

// module with what may be named by all parts: of everything none, one or some.
func (c *chance) module() api.Module {
	k := &maker{chance: c}
	k.m.Types = append([]api.FuncType{{}}, some(c, 3, func() api.FuncType {
		return api.FuncType{Params: some(c, 3, c.val), Results: some(c, 3, c.val)}
	})...)
	k.imports()
	for range c.below(4) {
		t := c.below(len(k.m.Types))
		k.m.Funcs = append(k.m.Funcs, api.Func{Type: t, Locals: some(c, 5, c.val)})
		k.funcs = append(k.funcs, t)
	}
	k.globals()
	k.segments()
	k.seen()
	k.m.Customs = some(c, 2, func() api.Custom { return api.Custom{Name: c.name(), Bytes: make([]byte, c.below(5))} })
	for i, f := range k.m.Funcs {
		k.m.Funcs[i].Body = k.body(f)
	}
	return k.m
}

func (k *maker) imports() {
	for range k.below(4) {
		x := api.Import{Module: k.name(), Name: k.name(), Kind: 3 * k.below(2)}
		if x.Kind == api.Fn {
			x.Type = k.below(len(k.m.Types))
			k.funcs = append(k.funcs, x.Type)
		} else {
			x.Type, x.Mutable = k.val(), k.odd()
			k.given = append(k.given, api.Var{Type: x.Type, Mutable: x.Mutable})
		}
		k.m.Imports = append(k.m.Imports, x)
	}
	switch l := k.limits(64); k.below(3) {
	case 0:
		k.m.Imports = append(k.m.Imports, api.Import{Name: k.name(), Kind: api.Tab, Limits: l})
	case 1:
		k.m.Tables = []api.Limits{l}
	}
	switch l := k.limits(4); k.below(3) {
	case 0:
		k.m.Imports = append(k.m.Imports, api.Import{Module: k.name(), Kind: api.Mem, Limits: l})
	case 1:
		k.m.Mems = []api.Limits{l}
	}
}

func (k *maker) has(kind, own int) bool {
	return own > 0 || slices.ContainsFunc(k.m.Imports, func(x api.Import) bool { return x.Kind == kind })
}

func (k *maker) hasTable() bool { return k.has(api.Tab, len(k.m.Tables)) }

func (k *maker) hasMemory() bool { return k.has(api.Mem, len(k.m.Mems)) }

func (k *maker) globals() {
	k.vars = slices.Clone(k.given)
	for range k.below(4) {
		t := k.val()
		x := api.Global{Type: t, Mutable: k.odd(), Init: k.constant(t)}
		k.m.Globals = append(k.m.Globals, x)
		k.vars = append(k.vars, api.Var{Type: x.Type, Mutable: x.Mutable})
	}
}

// constant of a type, by an imported global, if there is one.
func (k *maker) constant(t int) []api.Instr {
	if i := slices.Index(k.given, api.Var{Type: t}); i >= 0 && k.odd() {
		return []api.Instr{{Op: api.GlobalGet, A: i}, {Op: api.End}}
	}
	return []api.Instr{k.number(t), {Op: api.End}}
}

func (k *maker) number(t int) api.Instr {
	n := []int64{0, 1, -1, 63, 64, -64, -65, 1 << 20, 1<<31 - 1, -1 << 31}[k.below(10)]
	if t == api.I32 {
		return api.Instr{Op: api.Const32, K: n}
	}
	return api.Instr{Op: api.Const64, K: n << (k.below(2) * 32)}
}

func (k *maker) segments() {
	for range k.below(4) {
		x := api.Elem{Mode: k.below(3)}
		if x.Mode == api.Active && !k.hasTable() {
			x.Mode = api.Passive
		}
		if x.Mode == api.Active {
			x.Offset = k.constant(api.I32)
		}
		for range k.below(4) {
			if len(k.funcs) > 0 && k.odd() {
				x.Funcs = append(x.Funcs, k.below(len(k.funcs)))
			} else if k.odd() {
				x.Funcs = append(x.Funcs, -1)
			}
		}
		k.m.Elems = append(k.m.Elems, x)
	}
	for range k.below(3) {
		x := api.Data{Mode: api.Passive, Bytes: bytes.Repeat([]byte{byte(k.below(256))}, k.below(9))}
		if k.hasMemory() && k.odd() {
			x.Mode, x.Offset = api.Active, k.constant(api.I32)
		}
		k.m.Datas = append(k.m.Datas, x)
	}
	if k.odd() {
		k.m.Counts = []int{len(k.m.Datas)}
	}
}

// seen: exports and a start.
func (k *maker) seen() {
	for i, name := range []string{"", "f", "g", "\xc3\xa9", "memory"} {
		x := api.Export{Name: name, Kind: k.below(4)}
		many := []int{len(k.funcs), 0, 0, len(k.vars)}
		if k.hasTable() {
			many[api.Tab] = 1
		}
		if k.hasMemory() {
			many[api.Mem] = 1
		}
		if many[x.Kind] > 0 && i < 1+k.below(5) {
			x.Index = k.below(many[x.Kind])
			k.m.Exports = append(k.m.Exports, x)
		}
	}
	for f, t := range k.funcs {
		if x := k.m.Types[t]; len(x.Params)+len(x.Results) == 0 && k.below(3) == 0 {
			k.m.Starts = []int{f}
		}
	}
}

// writer of a body: what it lays leaves the stack as it was.
type writer struct {
	*maker
	locals []int
	labels [][]int // of each open block, the outermost first
	l      []api.Instr
}

func (k *maker) body(f api.Func) []api.Instr {
	t := k.m.Types[f.Type]
	w := &writer{maker: k, locals: slices.Concat(t.Params, f.Locals), labels: [][]int{t.Results}}
	w.steps(3)
	w.close(t.Results)
	return w.l
}

func (w *writer) say(op int, names ...int) {
	x := api.Instr{Op: op}
	if len(names) > 0 {
		x.A = names[0]
	}
	if len(names) > 1 {
		x.B = names[1]
	}
	w.l = append(w.l, x)
}

func (w *writer) numbers(types ...int) {
	for _, t := range types {
		w.l = append(w.l, w.number(t))
	}
}

func (w *writer) drop(n int) {
	for range n {
		w.say(api.Drop)
	}
}

// close a block, or a part of it, with what comes out, or by a branch behind which anything comes.
func (w *writer) close(results []int) {
	switch w.below(5) {
	case 0:
		w.say(api.Unreachable)
	case 1:
		w.numbers(w.labels[0]...)
		w.say(api.Return)
	case 2:
		n := w.below(len(w.labels))
		own := w.labels[len(w.labels)-1-n]
		w.numbers(own...)
		w.numbers(api.I32)
		x := api.Instr{Op: api.BrTable, A: n}
		for i := range w.labels {
			if slices.Equal(w.labels[len(w.labels)-1-i], own) {
				x.L = append(x.L, i)
			}
		}
		w.l = append(w.l, x)
	default:
		w.numbers(results...)
	}
	w.say(api.End)
}

func (w *writer) steps(deep int) {
	for range w.below(4) {
		w.step(deep)
	}
}

func (w *writer) step(deep int) {
	switch w.below(9) {
	case 0:
		w.say(api.Nop)
	case 1:
		t := w.val()
		w.numbers(t, t, api.I32)
		w.say(api.Select)
		w.drop(1)
	case 2:
		w.variable()
	case 3:
		if w.hasMemory() {
			w.memory()
		}
	case 4:
		w.aside()
	case 5, 6:
		if deep > 0 {
			w.block(deep - 1)
		}
	case 7:
		w.call()
	default:
		n := w.below(len(w.labels))
		own := w.labels[len(w.labels)-1-n]
		w.numbers(own...)
		w.numbers(api.I32)
		w.say(api.BrIf, n)
		w.drop(len(own))
	}
}

func (w *writer) variable() {
	if len(w.locals) > 0 {
		n := w.below(len(w.locals))
		w.say(api.LocalGet, n)
		w.say(api.LocalTee, n)
		w.say(api.LocalSet, n)
	}
	if len(w.vars) > 0 {
		n := w.below(len(w.vars))
		w.say(api.GlobalGet, n)
		if w.vars[n].Mutable {
			w.say(api.GlobalSet, n)
		} else {
			w.drop(1)
		}
	}
}

func (w *writer) memory() {
	switch w.below(4) {
	case 0:
		w.numbers(api.I32)
		w.say(0x29, w.below(4), 1<<w.below(32))
		w.say(0x50)
		w.drop(1)
	case 1:
		w.numbers(api.I32, api.I64)
		w.say(0x3d, w.below(2), w.below(300))
	case 2:
		w.say(api.MemSize)
		w.say(api.MemGrow)
		w.drop(1)
	default:
		w.numbers(api.I32, api.I32, api.I32)
		w.say([]int{api.MemCopy, api.MemFill}[w.below(2)])
	}
}

// aside: what is done with segments and the table.
func (w *writer) aside() {
	if n := len(w.m.Elems); n > 0 {
		w.say(api.ElemDrop, w.below(n))
		if w.hasTable() {
			w.numbers(api.I32, api.I32, api.I32)
			w.say(api.TabInit, w.below(n), 0)
		}
	}
	if w.hasTable() {
		w.numbers(api.I32, api.I32, api.I32)
		w.say(api.TabCopy, 0, 0)
	}
	if n := len(w.m.Datas); n > 0 && len(w.m.Counts) > 0 {
		w.say(api.DataDrop, w.below(n))
		if w.hasMemory() {
			w.numbers(api.I32, api.I32, api.I32)
			w.say(api.MemInit, w.below(n))
		}
	}
}

func (w *writer) call() {
	if w.hasTable() && w.odd() {
		n := w.below(len(w.m.Types))
		w.numbers(w.m.Types[n].Params...)
		w.numbers(api.I32)
		w.say(api.CallTable, n, 0)
		w.drop(len(w.m.Types[n].Results))
	} else if len(w.funcs) > 0 {
		n := w.below(len(w.funcs))
		t := w.m.Types[w.funcs[n]]
		w.numbers(t.Params...)
		w.say(api.Call, n)
		w.drop(len(t.Results))
	}
}

func (w *writer) block(deep int) {
	n := w.below(len(w.m.Types)+3) - 3
	var t api.FuncType
	switch n {
	case -3:
		n = api.Empty
	case -1:
		t.Results = []int{api.I32}
	case -2:
		t.Results = []int{api.I64}
	default:
		t = w.m.Types[n]
	}
	op := []int{api.Block, api.Loop, api.If}[w.below(3)]
	w.numbers(t.Params...)
	if op == api.If {
		w.numbers(api.I32)
	}
	w.say(op, n)
	w.inner(op, t, deep)
	if op == api.If { // what closed the first part was its end
		w.l[len(w.l)-1].Op = api.Else
		w.inner(op, t, deep)
	}
	w.drop(len(t.Results))
}

func (w *writer) inner(op int, t api.FuncType, deep int) {
	label := t.Results
	if op == api.Loop {
		label = t.Params
	}
	w.labels = append(w.labels, label)
	w.drop(len(t.Params))
	w.steps(deep)
	w.close(t.Results)
	w.labels = w.labels[:len(w.labels)-1]
}

// P11.1, P11.3: right modules of all kinds, in the fewest bytes and in others that say the same,
// are accepted as they are; with bytes changed they are what the layers below tell.
func TestChance(t *testing.T) {
	c := chance(11)
	met := map[int]int{}
	for range 1500 {
		m := c.module()
		short := spell(m, nil)
		names := modelCtx(m)
		accepts(t, short, m, names)
		if b, e := mod.Encode(m); e != api.OK || !bytes.Equal(b, short) {
			t.Errorf("Encode(%s) = %s, %d; want %s", tell(m), brief(b), e, brief(short))
		}
		for range 3 {
			b := spell(m, &c)
			if len(b) < len(short) {
				t.Errorf("%s is shorter than %s", brief(b), brief(short))
			}
			accepts(t, b, m, names)
			for range 4 {
				changed := bytes.Clone(b)
				changed[8+c.below(len(b)-8)] = byte(c.below(256))
				met[holds(t, changed)]++
				changed[8+c.below(len(b)-8)]++
				met[holds(t, changed)]++
			}
			met[holds(t, b[:c.below(len(b))])]++
		}
	}
	for v := api.Malformed; v <= api.Accepted; v++ {
		if met[v] < 500 {
			t.Errorf("%d: %d times", v, met[v])
		}
	}
}

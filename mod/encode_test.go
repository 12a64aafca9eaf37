package mod

import (
	"bytes"
	"math"
	"reflect"
	"slices"
	"strings"
	"testing"

	"trammel/api"
)

// P8.2: locals are put in as few pairs as can be.
func TestPairs(t *testing.T) {
	for _, c := range []struct {
		locals []int
		b      []byte
	}{
		{nil, []byte{0}}, {[]int{}, []byte{0}}, {[]int{0x7f}, []byte{1, 1, 0x7f}}, {[]int{0x7f, 0x7f}, []byte{1, 2, 0x7f}}, {[]int{0x7f, 0x7e}, []byte{2, 1, 0x7f, 1, 0x7e}}, {[]int{0x7e, 0x7f, 0x7f, 0x7e}, []byte{3, 1, 0x7e, 2, 0x7f, 1, 0x7e}},
		{slices.Repeat([]int{0x7e}, 64), []byte{1, 64, 0x7e}}, {slices.Repeat([]int{0x7f, 0x7e}, 32), join([]byte{64}, bytes.Repeat([]byte{1, 0x7f, 1, 0x7e}, 32))},
	} {
		m := api.Module{Funcs: []api.Func{{Locals: c.locals, Body: []api.Instr{{Op: 0xb}}}}}
		want := begin(sec(3, 1, 0), sec(10, join([]byte{1}, sized(join(c.b, []byte{0x0b})))...))
		if b, e := Encode(m); e != api.OK || !bytes.Equal(b, want) {
			t.Errorf("Encode(%s) = % x, %d; want % x", tell(m), b, e, want)
		}
		encodes(t, m)
	}
}

// P8.2: no section is empty, but a number that is said is said though it is 0.
func TestNoEmptySections(t *testing.T) {
	empty := api.Module{Types: []api.FuncType{}, Imports: []api.Import{}, Funcs: []api.Func{}, Tables: []api.Limits{}, Mems: []api.Limits{}, Globals: []api.Global{}, Exports: []api.Export{}, Starts: []int{}, Elems: []api.Elem{}, Counts: []int{}, Datas: []api.Data{}, Customs: []api.Custom{}}
	for _, c := range []struct {
		m api.Module
		b []byte
	}{
		{empty, nil},
		{api.Module{Starts: []int{0}}, sec(8, 0)},
		{api.Module{Counts: []int{0}}, sec(12, 0)},
		{api.Module{Counts: []int{0}, Starts: []int{0}, Datas: []api.Data{}}, join(sec(8, 0), sec(12, 0))},
		{api.Module{Customs: []api.Custom{{}}}, sec(0, 0)},
		{api.Module{Funcs: []api.Func{{Body: []api.Instr{{Op: 0xb}}}}}, join(sec(3, 1, 0), sec(10, 1, 2, 0, 0x0b))},
		{api.Module{Types: []api.FuncType{{Params: []int{}, Results: []int{}}}, Elems: []api.Elem{{Mode: 1, Offset: []api.Instr{}, Funcs: []int{}}}, Datas: []api.Data{{Mode: 1, Offset: []api.Instr{}, Bytes: []byte{}}}}, join(sec(1, 1, 0x60, 0, 0), sec(9, 1, 1, 0, 0), sec(11, 1, 1, 0))},
	} {
		if b, e := Encode(c.m); e != api.OK || !bytes.Equal(b, begin(c.b)) {
			t.Errorf("Encode(%s) = % x, %d; want % x", tell(c.m), b, e, begin(c.b))
		}
		encodes(t, c.m)
	}
}

// spoil is a change that makes a module no module.
type spoil struct {
	name string
	do   func(*api.Module)
}

// spoils of the full module: numbers, kinds, types, names and expressions that are none.
func spoils() []spoil {
	var all []spoil
	add := func(name string, do func(*api.Module)) { all = append(all, spoil{name, do}) }
	for _, n := range []int{-1, -2, 1 << 32, 1<<32 + 1, math.MinInt, math.MaxInt} {
		add("import's type", func(m *api.Module) { m.Imports[0].Type = n })
		add("import's least", func(m *api.Module) { m.Imports[2].Limits.Min = n })
		add("import's most", func(m *api.Module) { m.Imports[5].Limits.Max = n })
		add("function's type", func(m *api.Module) { m.Funcs[1].Type = n })
		add("table's least", func(m *api.Module) { m.Tables[0].Min = n })
		add("table's most", func(m *api.Module) { m.Tables[1].Max = n })
		add("memory's least", func(m *api.Module) { m.Mems[1].Min = n })
		add("memory's most", func(m *api.Module) { m.Mems[0].Max = n })
		add("export's index", func(m *api.Module) { m.Exports[0].Index = n })
		add("start", func(m *api.Module) { m.Starts[0] = n })
		add("count", func(m *api.Module) { m.Counts[0] = n })
		if n != -1 {
			add("element", func(m *api.Module) { m.Elems[0].Funcs[1] = n })
			add("element beside -1", func(m *api.Module) { m.Elems[3].Funcs[1] = n })
		}
	}
	for _, n := range []int{-1, -256, 4, 5, 255, 256, 257, 259, 1 << 32, math.MinInt} {
		add("import's kind", func(m *api.Module) { m.Imports[0].Kind = n })
		add("bare import's kind", func(m *api.Module) { m.Imports[1] = api.Import{Kind: n} })
		add("export's kind", func(m *api.Module) { m.Exports[2].Kind = n })
		add("element's mode", func(m *api.Module) { m.Elems[0].Mode = n })
		add("bare element's mode", func(m *api.Module) { m.Elems[1].Mode = n })
		add("data's mode", func(m *api.Module) { m.Datas[0].Mode = n })
		add("bare data's mode", func(m *api.Module) { m.Datas[1].Mode = n })
	}
	for _, v := range []int{0, -1, -2, 0x40, 0x60, 0x6f, 0x70, 0x7b, 0x7c, 0x7d, 0x80, 0x17f, 0x17e, 0x7f - 256, 1<<32 + 0x7f} {
		add("parameter", func(m *api.Module) { m.Types[3].Params[1] = v })
		add("result", func(m *api.Module) { m.Types[3].Results[0] = v })
		add("import's value", func(m *api.Module) { m.Imports[6].Type = v })
		add("global's value", func(m *api.Module) { m.Globals[0].Type = v })
		add("local", func(m *api.Module) { m.Funcs[1].Locals[2] = v })
	}
	for _, s := range []string{"\xff", "\xc3", "\xc0\x80", "\xed\xa0\x80", longer + "n", longer + "\xff", strings.Repeat(longer, 2000)} {
		add("import's module", func(m *api.Module) { m.Imports[0].Module = s })
		add("import's name", func(m *api.Module) { m.Imports[7].Name = s })
		add("export's name", func(m *api.Module) { m.Exports[1].Name = s })
		add("custom's name", func(m *api.Module) { m.Customs[0].Name = s })
	}
	for _, l := range [][]api.Instr{nil, {{Op: 0xb}, {Op: 0xb}}, {{Op: 1}}, {{Op: 0x43}, {Op: 0xb}}, {{Op: 5}, {Op: 0xb}}, {{Op: 1, A: 1}, {Op: 0xb}}, {{Op: 2, A: -3}, {Op: 0xb}, {Op: 0xb}}, append(make([]api.Instr, 2000), api.Instr{Op: 0xb})} {
		add("body", func(m *api.Module) { m.Funcs[0].Body = l })
		add("last body", func(m *api.Module) { m.Funcs[2].Body = l })
		add("init", func(m *api.Module) { m.Globals[1].Init = l })
		add("element's offset", func(m *api.Module) { m.Elems[0].Offset = l })
		add("element's offset beside -1", func(m *api.Module) { m.Elems[3].Offset = l })
		add("data's offset", func(m *api.Module) { m.Datas[2].Offset = l })
	}
	return append(all, misfits()...)
}

// misfits are what stands where nothing may, and what is too long.
func misfits() []spoil {
	return []spoil{
		{"function with limits", func(m *api.Module) { m.Imports[0].Limits.Min = 1 }},
		{"function that is capped", func(m *api.Module) { m.Imports[0].Limits.Capped = true }},
		{"function that is mutable", func(m *api.Module) { m.Imports[0].Mutable = true }},
		{"table with a type", func(m *api.Module) { m.Imports[2].Type = 1 }},
		{"table with a value's type", func(m *api.Module) { m.Imports[2].Type = 0x7f }},
		{"table that is mutable", func(m *api.Module) { m.Imports[2].Mutable = true }},
		{"memory with a type", func(m *api.Module) { m.Imports[4].Type = 0x70 }},
		{"memory that is mutable", func(m *api.Module) { m.Imports[4].Mutable = true }},
		{"global with a least", func(m *api.Module) { m.Imports[6].Limits.Min = 1 }},
		{"global with a most", func(m *api.Module) { m.Imports[6].Limits.Max = 1 }},
		{"global that is capped", func(m *api.Module) { m.Imports[6].Limits.Capped = true }},
		{"import with a most but no cap", func(m *api.Module) { m.Imports[2].Limits.Max = 9 }},
		{"table with a most but no cap", func(m *api.Module) { m.Tables[0].Max = 9 }},
		{"memory with a most but no cap", func(m *api.Module) { m.Mems[1].Max = 1 }},
		{"passive element with an offset", func(m *api.Module) { m.Elems[1].Offset = zeroes }},
		{"declared element with an offset", func(m *api.Module) { m.Elems[2].Offset = zeroes }},
		{"passive -1 with an offset", func(m *api.Module) { m.Elems[4].Offset = zeroes }},
		{"declared -1 with an offset", func(m *api.Module) { m.Elems[5].Offset = zeroes }},
		{"passive data with an offset", func(m *api.Module) { m.Datas[1].Offset = zeroes }},
		{"declared data", func(m *api.Module) { m.Datas[1].Mode = api.Declared }},
		{"active element that was passive", func(m *api.Module) { m.Elems[1].Mode = api.Active }},
		{"passive element that was active", func(m *api.Module) { m.Elems[0].Mode = api.Passive }},
		{"active data that was passive", func(m *api.Module) { m.Datas[1].Mode = api.Active }},
		{"passive data that was active", func(m *api.Module) { m.Datas[0].Mode = api.Passive }},
		{"two starts", func(m *api.Module) { m.Starts = []int{0, 0} }},
		{"two counts", func(m *api.Module) { m.Counts = []int{3, 3} }},
		{"two counts, one wrong", func(m *api.Module) { m.Counts = []int{3, 4} }},
		{"count above the datas", func(m *api.Module) { m.Counts[0] = 4 }},
		{"count below the datas", func(m *api.Module) { m.Counts[0] = 2 }},
		{"count of none", func(m *api.Module) { m.Counts[0] = 0 }},
		{"datas that were not counted", func(m *api.Module) { m.Datas = append(m.Datas, api.Data{Mode: api.Passive}) }},
		{"no datas where some were counted", func(m *api.Module) { m.Datas = nil }},
		{"nine parameters", func(m *api.Module) { m.Types[0].Params = slices.Repeat([]int{0x7f}, 9) }},
		{"nine results", func(m *api.Module) { m.Types[0].Results = slices.Repeat([]int{0x7e}, 9) }},
		{"65 locals", func(m *api.Module) { m.Funcs[0].Locals = slices.Repeat([]int{0x7e}, 65) }},
		{"65 locals in turn", func(m *api.Module) { m.Funcs[0].Locals = slices.Repeat([]int{0x7e, 0x7f}, 33)[1:] }},
		{"more locals than bytes", func(m *api.Module) { m.Funcs[0].Locals = slices.Repeat([]int{0x7e}, 70000) }},
		{"65 types", func(m *api.Module) { m.Types = make([]api.FuncType, 65) }},
		{"65 imports", func(m *api.Module) { m.Imports = make([]api.Import, 65) }},
		{"65 functions", func(m *api.Module) { m.Funcs = slices.Repeat(m.Funcs[:1], 65) }},
		{"65 tables", func(m *api.Module) { m.Tables = make([]api.Limits, 65) }},
		{"65 memories", func(m *api.Module) { m.Mems = make([]api.Limits, 65) }},
		{"65 globals", func(m *api.Module) { m.Globals = slices.Repeat(m.Globals[:1], 65) }},
		{"65 exports", func(m *api.Module) { m.Exports = make([]api.Export, 65) }},
		{"65 elements", func(m *api.Module) { m.Elems = slices.Repeat(m.Elems[:1], 65) }},
		{"65 datas", func(m *api.Module) { m.Datas, m.Counts = slices.Repeat(m.Datas[:1], 65), nil }},
		{"65 datas that were counted", func(m *api.Module) { m.Datas, m.Counts = slices.Repeat(m.Datas[:1], 65), []int{65} }},
		{"65 numbers", func(m *api.Module) { m.Elems[0].Funcs = make([]int, 65) }},
		{"65 numbers, passive", func(m *api.Module) { m.Elems[1].Funcs = make([]int, 65) }},
		{"65 entries", func(m *api.Module) { m.Elems[3].Funcs = slices.Repeat([]int{-1}, 65) }},
		{"more types than bytes", func(m *api.Module) { m.Types = make([]api.FuncType, 70000) }},
	}
}

// P8.2: what Encode refuses with ErrForm, be there too many bytes as well or not. What was changed
// back is formed.
func TestRefused(t *testing.T) {
	for _, s := range spoils() {
		_, m := full()
		s.do(&m)
		if modelParts(m) {
			t.Errorf("%s: formed", s.name)
		}
		refuses(t, m, api.ErrForm)
		for _, c := range [][]api.Custom{{m.Customs[0], {Bytes: make([]byte, 65536)}}, {{Bytes: make([]byte, 65536)}, m.Customs[0]}} {
			m.Customs = c
			refuses(t, m, api.ErrForm)
		}
		_, m = full()
		m.Datas[0].Bytes = make([]byte, 70000)
		refuses(t, m, api.ErrLong)
		s.do(&m)
		refuses(t, m, api.ErrForm)
	}
	_, m := full()
	if !Formed(m) {
		t.Error("full")
	}
}

// P8.2: the greatest of everything is formed.
func TestEdges(t *testing.T) {
	end := []api.Instr{{Op: 0xb}}
	eight := slices.Repeat([]int{0x7e}, 8)
	for _, m := range []api.Module{
		{Types: slices.Repeat([]api.FuncType{{Params: eight, Results: eight}}, 64)},
		{Imports: slices.Repeat([]api.Import{{Module: longer, Name: longer, Type: top}}, 64)},
		{Imports: []api.Import{{Kind: 1, Limits: api.Limits{Min: top, Capped: true, Max: top}}, {Kind: 2, Limits: api.Limits{Min: top}}, {Kind: 3, Type: 0x7e, Mutable: true}, {Kind: 1, Limits: api.Limits{Min: 1, Capped: true}}}},
		{Funcs: slices.Repeat([]api.Func{{Type: top, Locals: slices.Repeat([]int{0x7f, 0x7e}, 32), Body: end}}, 64)},
		{Tables: slices.Repeat([]api.Limits{{Min: top, Capped: true, Max: top}}, 64), Mems: slices.Repeat([]api.Limits{{Min: top}}, 64)},
		{Globals: slices.Repeat([]api.Global{{Type: 0x7e, Mutable: true, Init: end}}, 64)},
		{Globals: []api.Global{{Type: 0x7f, Init: append(make([]api.Instr, 1999), end...)}}},
		{Exports: slices.Repeat([]api.Export{{Name: longer, Kind: 3, Index: top}}, 64)},
		{Starts: []int{top}},
		{Elems: slices.Repeat([]api.Elem{{Offset: end, Funcs: slices.Repeat([]int{top}, 64)}}, 64)},
		{Elems: slices.Repeat([]api.Elem{{Offset: end, Funcs: slices.Repeat([]int{-1, top}, 32)}}, 64)},
		{Elems: slices.Repeat([]api.Elem{{Mode: 1, Funcs: slices.Repeat([]int{-1}, 64)}, {Mode: 2, Funcs: slices.Repeat([]int{top}, 64)}}, 32)},
		{Datas: slices.Repeat([]api.Data{{Mode: 1, Bytes: make([]byte, 1000)}, {Offset: end}}, 32), Counts: []int{64}},
		{Datas: slices.Repeat([]api.Data{{Mode: 1}}, 64)},
		{Customs: slices.Repeat([]api.Custom{{Name: longer}}, 900)},
	} {
		if !Formed(m) {
			t.Errorf("%s isn't formed", tell(m))
		}
		encodes(t, m)
	}
}

// P8.1, P8.2: 65,536 bytes are encoded and decoded, one more is too many, wherever it stands.
func TestLong(t *testing.T) {
	end := []api.Instr{{Op: 0xb}}
	labels := api.Instr{Op: api.BrTable, L: slices.Repeat([]int{top}, 64)}
	big := append(slices.Repeat([]api.Instr{labels}, 190), end...)
	for name, grown := range map[string]func(n int) api.Module{
		"data":   func(n int) api.Module { return api.Module{Datas: []api.Data{{Mode: 1, Bytes: make([]byte, n)}}} },
		"custom": func(n int) api.Module { return api.Module{Customs: []api.Custom{{Name: "x", Bytes: make([]byte, n)}}} },
		"customs": func(n int) api.Module {
			return api.Module{Customs: append(make([]api.Custom, 700), api.Custom{Bytes: make([]byte, n)})}
		},
		"datas": func(n int) api.Module {
			return api.Module{Datas: []api.Data{{Mode: 1, Bytes: make([]byte, n/2)}, {Offset: end, Bytes: make([]byte, n-n/2)}}}
		},
		"data and custom": func(n int) api.Module {
			return api.Module{Datas: []api.Data{{Mode: 1, Bytes: make([]byte, 20000)}}, Customs: []api.Custom{{Bytes: make([]byte, n)}}}
		},
		"data and body": func(n int) api.Module {
			return api.Module{Funcs: []api.Func{{Body: big}}, Datas: []api.Data{{Mode: 1, Bytes: make([]byte, n)}}}
		},
		"data and offset": func(n int) api.Module {
			return api.Module{Elems: []api.Elem{{Offset: big}}, Datas: []api.Data{{Mode: 1, Bytes: make([]byte, n)}}}
		},
	} {
		n := 30000
		for range 20 {
			n += 65536 - len(modelEncode(grown(n)))
		}
		b, e := Encode(grown(n))
		if e != api.OK || len(b) != 65536 || !Formed(grown(n)) {
			t.Errorf("%s: %d bytes, %d", name, len(b), e)
		}
		decodes(t, b, grown(n), api.OK)
		fails(t, append(b, 0), api.ErrLong)
		encodes(t, grown(n-1))
		for _, more := range []int{1, 2, 100, 70000, 1 << 22} {
			refuses(t, grown(n+more), api.ErrLong)
			encodes(t, grown(n+more))
		}
	}
	over := append(slices.Repeat([]api.Instr{labels}, 300), end...)
	for _, m := range []api.Module{
		{Funcs: slices.Repeat([]api.Func{{Body: over}}, 64)}, {Funcs: []api.Func{{Body: end}, {Body: over}}}, {Funcs: slices.Repeat([]api.Func{{Body: big}}, 2)},
		{Globals: []api.Global{{Type: 0x7f, Init: over}}}, {Globals: slices.Repeat([]api.Global{{Type: 0x7f, Init: big}}, 2)},
		{Elems: []api.Elem{{Offset: over, Funcs: []int{-1}}}}, {Elems: []api.Elem{{Offset: big}, {Offset: big}}},
		{Datas: []api.Data{{Offset: over}}}, {Datas: slices.Repeat([]api.Data{{Mode: 1, Bytes: make([]byte, 1<<20)}}, 64)}, {Datas: slices.Repeat([]api.Data{{Mode: 1, Bytes: make([]byte, 1100)}}, 64)},
		{Funcs: []api.Func{{Body: big}}, Globals: []api.Global{{Type: 0x7f, Init: big}}},
		{Customs: make([]api.Custom, 40000)}, {Customs: slices.Repeat([]api.Custom{{Bytes: make([]byte, 1<<16)}}, 1000)},
	} {
		refuses(t, m, api.ErrLong)
		m.Starts = []int{-1}
		refuses(t, m, api.ErrForm)
	}
	fails(t, make([]byte, 65537), api.ErrLong)
	fails(t, make([]byte, 65536), api.ErrForm)
	fails(t, make([]byte, 1<<24), api.ErrLong)
}

// chance is numbers that follow one another by a rule, so that each run has the same.
type chance uint64

func (c *chance) below(n int) int {
	*c = *c*6364136223846793005 + 1442695040888963407
	return int(uint64(*c) >> 33 % uint64(n))
}

func (c *chance) number() int {
	return []int{0, 1, 2, 63, 64, 127, 128, 300, 16384, 1 << 20, 1 << 31, top - 1, top}[c.below(13)]
}

func (c *chance) val() int { return 0x7e + c.below(2) }

func (c *chance) vals(most int) []int { return some(c, most, (*chance).val) }

func some[T any](c *chance, most int, one func(*chance) T) []T {
	var l []T
	for range c.below(most + 1) {
		l = append(l, one(c))
	}
	return l
}

func (c *chance) name() string {
	return []string{"", "a", "\xc3\xa9", "memory", longer, "\x00", "\xf0\x9f\x98\x80"}[c.below(7)]
}

func (c *chance) limits() api.Limits {
	if c.below(2) == 0 {
		return api.Limits{Min: c.number()}
	}
	return api.Limits{Min: c.number(), Capped: true, Max: c.number()}
}

func (c *chance) body() []api.Instr {
	var l []api.Instr
	for range c.below(6) {
		l = append(l, [][]api.Instr{
			{{Op: 0x41, K: int64(int32(c.number()))}}, {{Op: 0x42, K: int64(c.number()) << 31}}, {{Op: 0x6a}}, {{Op: 0x20, A: c.number()}}, {{Op: 0x28, A: 2, B: c.number()}}, {{Op: 0x11, A: c.number(), B: 1}},
			{{Op: 0x0e, A: 1, L: []int{c.number(), 0}}}, {{Op: 2, A: api.Empty}, {Op: 0xb}}, {{Op: 4, A: -1}, {Op: 5}, {Op: 0xb}}, {{Op: 3, A: c.number()}, {Op: 1}, {Op: 0xb}}, {{Op: 0x10a}, {Op: 0x108, A: 3}},
		}[c.below(11)]...)
	}
	return append(l, api.Instr{Op: 0xb})
}

func (c *chance) imported() api.Import {
	x := api.Import{Module: c.name(), Name: c.name(), Kind: c.below(4)}
	switch x.Kind {
	case 0:
		x.Type = c.number()
	case 1, 2:
		x.Limits = c.limits()
	case 3:
		x.Type, x.Mutable = c.val(), c.below(2) == 1
	}
	return x
}

func (c *chance) elem() api.Elem {
	x := api.Elem{Mode: c.below(3), Funcs: some(c, 5, (*chance).number)}
	if x.Mode == 0 {
		x.Offset = c.body()
	}
	if len(x.Funcs) > 0 && c.below(2) == 0 {
		x.Funcs[c.below(len(x.Funcs))] = -1
	}
	return x
}

func (c *chance) data() api.Data {
	x := api.Data{Mode: c.below(2), Bytes: bytes.Repeat([]byte{byte(c.below(256))}, c.below(200))}
	if x.Mode == 0 {
		x.Offset = c.body()
	}
	return x
}

func (c *chance) module() api.Module {
	m := api.Module{
		Types:   some(c, 3, func(c *chance) api.FuncType { return api.FuncType{Params: c.vals(8), Results: c.vals(8)} }),
		Imports: some(c, 3, (*chance).imported),
		Funcs:   some(c, 3, func(c *chance) api.Func { return api.Func{Type: c.number(), Locals: c.vals(64), Body: c.body()} }),
		Tables:  some(c, 2, (*chance).limits),
		Mems:    some(c, 2, (*chance).limits),
		Globals: some(c, 3, func(c *chance) api.Global {
			return api.Global{Type: c.val(), Mutable: c.below(2) == 1, Init: c.body()}
		}),
		Exports: some(c, 3, func(c *chance) api.Export {
			return api.Export{Name: c.name(), Kind: c.below(4), Index: c.number()}
		}),
		Starts:  some(c, 1, (*chance).number),
		Elems:   some(c, 3, (*chance).elem),
		Datas:   some(c, 3, (*chance).data),
		Customs: some(c, 3, func(c *chance) api.Custom { return api.Custom{Name: c.name(), Bytes: make([]byte, c.below(5))} }),
	}
	if c.below(2) == 0 {
		m.Counts = []int{len(m.Datas)}
	}
	return m
}

// P8.3: modules of all kinds are decoded as they were encoded; with a byte changed, and with two
// pieces changed about, they are what the model says.
func TestEncodedIsDecoded(t *testing.T) {
	c := chance(8)
	for range 3000 {
		m := c.module()
		if !modelParts(m) {
			t.Fatalf("%s", tell(m))
		}
		encodes(t, m)
		b, _ := Encode(m)
		for range 8 {
			changed := slices.Clone(b)
			changed[c.below(len(b))] = byte(c.below(256))
			againstModel(t, changed)
			changed[c.below(len(b))]++
			againstModel(t, changed)
		}
		at := c.below(len(b))
		againstModel(t, join(b[:at], b[c.below(at+1):]))
	}
}

// P8.2: one thing wrong in modules of all kinds: Formed and Encode tell it as the model does.
func TestEncodeSpoiled(t *testing.T) {
	c := chance(88)
	odd := []int{-1, -2, 0, 1, 2, 3, 4, 64, 0x7d, 0x7e, 0x7f, 0x80, top, top + 1, math.MaxInt, math.MinInt}
	refused := 0
	for range 20000 {
		m := c.module()
		var spots []reflect.Value
		var walk func(v reflect.Value)
		walk = func(v reflect.Value) {
			switch v.Kind() {
			case reflect.Struct:
				for i := range v.NumField() {
					walk(v.Field(i))
				}
			case reflect.Slice:
				for i := range v.Len() {
					walk(v.Index(i))
				}
			case reflect.Int, reflect.Bool:
				spots = append(spots, v)
			}
		}
		walk(reflect.ValueOf(&m).Elem())
		if len(spots) == 0 {
			continue
		}
		if v := spots[c.below(len(spots))]; v.Kind() == reflect.Bool {
			v.SetBool(!v.Bool())
		} else {
			v.SetInt(int64(odd[c.below(len(odd))]))
		}
		if !modelParts(m) {
			refused++
		}
		encodes(t, m)
	}
	if refused < 5000 || refused > 19000 {
		t.Errorf("%d refused", refused)
	}
}

// stretch is a piece of memory that a list has, its spare room included.
type stretch struct{ from, to uintptr }

// stretches of all lists in v.
func stretches(v reflect.Value) []stretch {
	var all []stretch
	switch v.Kind() {
	case reflect.Struct:
		for i := range v.NumField() {
			all = append(all, stretches(v.Field(i))...)
		}
	case reflect.Slice:
		if size := uintptr(v.Cap()) * v.Type().Elem().Size(); size > 0 {
			all = append(all, stretch{v.Pointer(), v.Pointer() + size})
		}
		for i := range v.Len() {
			all = append(all, stretches(v.Index(i))...)
		}
	}
	return all
}

func disjoint(t *testing.T, all []stretch) {
	t.Helper()
	slices.SortFunc(all, func(a, b stretch) int {
		if a.from < b.from {
			return -1
		}
		return 1
	})
	for i := 1; i < len(all); i++ {
		if all[i].from < all[i-1].to {
			t.Fatalf("memory is shared: %x and %x", all[i-1], all[i])
		}
	}
}

// An answer of Decode is new memory: none of its lists shares any with the bytes or with another
// list of this or of a second answer. The bytes stay as they are, and aren't kept.
func TestDecodeSharesNothing(t *testing.T) {
	b, want := full()
	b = append(b, sec(0, 1, 'y', 1, 2, 3)...)
	want.Customs = append(want.Customs, api.Custom{Name: "y", Bytes: []byte{1, 2, 3}})
	room := append(slices.Clone(b), 0xaa, 0xbb)
	m, _ := Decode(room[:len(b)])
	twin, _ := Decode(room[:len(b)])
	if !bytes.Equal(room, append(slices.Clone(b), 0xaa, 0xbb)) {
		t.Fatal("changed")
	}
	all := stretches(reflect.ValueOf(m))
	if len(all) < 30 {
		t.Fatalf("%d lists", len(all))
	}
	disjoint(t, slices.Concat(all, stretches(reflect.ValueOf(twin)), stretches(reflect.ValueOf(room))))
	clear(room)
	if !same(m, want) {
		t.Errorf("kept: %s", tell(m))
	}
}

// roomy copies a module, each of its lists with room to spare.
func roomy(v reflect.Value) reflect.Value {
	out := reflect.New(v.Type()).Elem()
	switch v.Kind() {
	case reflect.Struct:
		for i := range v.NumField() {
			out.Field(i).Set(roomy(v.Field(i)))
		}
	case reflect.Slice:
		out.Set(reflect.MakeSlice(v.Type(), v.Len(), v.Len()+5))
		for i := range v.Len() {
			out.Index(i).Set(roomy(v.Index(i)))
		}
	default:
		out.Set(v)
	}
	return out
}

// spare is what stands in the spare room of all lists.
func spare(v reflect.Value) []any {
	var all []any
	switch v.Kind() {
	case reflect.Struct:
		for i := range v.NumField() {
			all = append(all, spare(v.Field(i))...)
		}
	case reflect.Slice:
		for i := range v.Len() {
			all = append(all, spare(v.Index(i))...)
		}
		whole := v.Slice(0, v.Cap())
		for i := v.Len(); i < v.Cap(); i++ {
			all = append(all, whole.Index(i).Interface())
		}
	}
	return all
}

// Neither Encode nor Formed changes a module or the spare room of its lists, or keeps any.
func TestEncodeSharesNothing(t *testing.T) {
	b, m := full()
	m = roomy(reflect.ValueOf(m)).Interface().(api.Module)
	before := spare(reflect.ValueOf(m))
	first, _ := Encode(m)
	second, _ := Encode(m)
	if !Formed(m) || !bytes.Equal(first, b) || !bytes.Equal(second, b) {
		t.Fatalf("% x", first)
	}
	if _, want := full(); !same(m, want) || !reflect.DeepEqual(spare(reflect.ValueOf(m)), before) {
		t.Errorf("changed: %s", tell(m))
	}
	disjoint(t, append(stretches(reflect.ValueOf(m)), slices.Concat(stretches(reflect.ValueOf(first)), stretches(reflect.ValueOf(second)))...))
	m.Starts[0] = -1
	if _, e := Encode(m); e != api.ErrForm || Formed(m) {
		t.Error(e)
	}
}

func FuzzDecode(f *testing.F) {
	b, _ := full()
	f.Add(b)
	for _, p := range parts() {
		f.Add(p.alone())
	}
	f.Fuzz(func(t *testing.T, b []byte) {
		againstModel(t, b)
		againstModel(t, begin(b))
	})
}

package mod

import (
	"bytes"
	"fmt"
	"reflect"
	"slices"
	"strings"
	"testing"

	"trammel/api"
)

var (
	most   = []byte{0xff, 0xff, 0xff, 0xff, 0x0f} // 4294967295
	zeroes = []api.Instr{{Op: api.Const32}, {Op: api.End}}
	longer = strings.Repeat("n", 64)
)

func brief(b []byte) string {
	if len(b) > 200 {
		return fmt.Sprintf("% x .. (%d bytes)", b[:200], len(b))
	}
	return fmt.Sprintf("% x", b)
}

// tell a module's parts that aren't empty.
func tell(m api.Module) string {
	var parts []string
	v := reflect.ValueOf(m)
	for i := range v.NumField() {
		if f := v.Field(i); f.Len() > 0 {
			part := fmt.Sprintf("%s %v", v.Type().Field(i).Name, f)
			parts = append(parts, part[:min(len(part), 300)])
		}
	}
	return "{" + strings.Join(parts, "; ") + "}"
}

func decodes(t *testing.T, b []byte, want api.Module, e api.Errno) {
	t.Helper()
	if m, f := Decode(b); !same(m, want) || f != e {
		t.Errorf("Decode(%s) = %s, %d; want %s, %d", brief(b), tell(m), f, tell(want), e)
	}
}

func fails(t *testing.T, b []byte, e api.Errno) {
	t.Helper()
	decodes(t, b, api.Module{}, e)
}

// encodes holds Encode and Formed against the model, and decodes again what was encoded.
func encodes(t *testing.T, m api.Module) {
	t.Helper()
	var want []byte
	e := api.ErrForm
	if modelParts(m) {
		want, e = modelEncode(m), api.OK
	}
	if len(want) > 65536 {
		want, e = nil, api.ErrLong
	}
	b, f := Encode(m)
	if !bytes.Equal(b, want) || f != e {
		t.Errorf("Encode(%s) = %s, %d; want %s, %d", tell(m), brief(b), f, brief(want), e)
	}
	if Formed(m) != (e == api.OK) {
		t.Errorf("Formed(%s) = %v", tell(m), Formed(m))
	}
	if e == api.OK {
		decodes(t, b, m, api.OK)
	}
}

func refuses(t *testing.T, m api.Module, e api.Errno) {
	t.Helper()
	if b, f := Encode(m); len(b) != 0 || f != e || Formed(m) {
		t.Errorf("Encode(%s) = %s, %d; Formed: %v; want %d", tell(m), brief(b), f, Formed(m), e)
	}
}

// againstModel also holds: what was decoded is formed, takes no more bytes encoded, and is decoded
// again as it was.
func againstModel(t *testing.T, b []byte) {
	t.Helper()
	want, e := modelDecode(b)
	decodes(t, b, want, e)
	if e != api.OK {
		return
	}
	again, f := Encode(want)
	if !Formed(want) || f != api.OK || len(again) > len(b) {
		t.Errorf("Encode of Decode(%s) = %s, %d; Formed: %v", brief(b), brief(again), f, Formed(want))
	}
	decodes(t, again, want, api.OK)
}

// part is a section that may stand by itself or with what need says, and what it says.
type part struct {
	id   byte
	b    []byte
	m    api.Module
	need []byte
}

// parts are sections in the order in which they stand, written out, with every form of imports,
// elements and datas, the numbers in as few bytes as can be. Each is as Encode puts it.
func parts() []part {
	expr := func(b ...byte) []api.Instr {
		return []api.Instr{{Op: api.Const32, K: int64(b[0])}, {Op: api.End}}
	}
	return []part{
		{id: 1, b: []byte{4, 0x60, 0, 0, 0x60, 1, 0x7f, 0, 0x60, 0, 1, 0x7e, 0x60, 2, 0x7f, 0x7e, 2, 0x7e, 0x7f},
			m: api.Module{Types: []api.FuncType{{}, {Params: []int{0x7f}}, {Results: []int{0x7e}}, {Params: []int{0x7f, 0x7e}, Results: []int{0x7e, 0x7f}}}}},
		{id: 2, b: join([]byte{8, 1, 'm', 1, 'n', 0, 3, 0, 0, 0, 0x80, 1, 2, 0xc3, 0xa9, 0, 1, 0x70, 0, 7, 1, 'a', 0, 1, 0x70, 1, 2, 3},
			[]byte{0, 0, 2, 0, 1, 0, 1, 'b', 2, 1, 0, 0x80, 2, 1, 'g', 1, 'i', 3, 0x7f, 0, 1, 'g', 1, 'j', 3, 0x7e, 1}),
			m: api.Module{Imports: []api.Import{
				{Module: "m", Name: "n", Type: 3}, {Type: 128},
				{Module: "\xc3\xa9", Kind: api.Tab, Limits: api.Limits{Min: 7}}, {Module: "a", Kind: api.Tab, Limits: api.Limits{Min: 2, Capped: true, Max: 3}},
				{Kind: api.Mem, Limits: api.Limits{Min: 1}}, {Name: "b", Kind: api.Mem, Limits: api.Limits{Capped: true, Max: 256}},
				{Module: "g", Name: "i", Kind: api.Glo, Type: 0x7f}, {Module: "g", Name: "j", Kind: api.Glo, Type: 0x7e, Mutable: true}}}},
		{id: 3, b: []byte{3, 2, 0, 0xc8, 1}, need: []byte{10, 10, 3, 2, 0, 0x0b, 2, 0, 0x0b, 2, 0, 0x0b},
			m: api.Module{Funcs: []api.Func{{Type: 2, Body: []api.Instr{{Op: 0xb}}}, {Body: []api.Instr{{Op: 0xb}}}, {Type: 200, Body: []api.Instr{{Op: 0xb}}}}}},
		{id: 4, b: join([]byte{2, 0x70, 0, 5, 0x70, 1, 0}, most), m: api.Module{Tables: []api.Limits{{Min: 5}, {Capped: true, Max: top}}}},
		{id: 5, b: []byte{2, 1, 9, 4, 0, 0}, m: api.Module{Mems: []api.Limits{{Min: 9, Capped: true, Max: 4}, {}}}},
		{id: 6, b: []byte{3, 0x7f, 0, 0x41, 7, 0x0b, 0x7e, 1, 0x42, 0x7f, 0x0b, 0x7f, 1, 0x23, 0, 0x02, 0x40, 0x0b, 0x0b},
			m: api.Module{Globals: []api.Global{{Type: 0x7f, Init: expr(7)}, {Type: 0x7e, Mutable: true, Init: []api.Instr{{Op: 0x42, K: -1}, {Op: 0xb}}},
				{Type: 0x7f, Mutable: true, Init: []api.Instr{{Op: 0x23}, {Op: 2, A: api.Empty}, {Op: 0xb}, {Op: 0xb}}}}}},
		{id: 7, b: join([]byte{5, 1, 'f', 0, 0, 0, 1, 9, 2, 0xc3, 0xa9, 2, 0x80, 1, 1, 'f', 3, 0, 0, 0}, most),
			m: api.Module{Exports: []api.Export{{Name: "f"}, {Kind: 1, Index: 9}, {Name: "\xc3\xa9", Kind: 2, Index: 128}, {Name: "f", Kind: 3}, {Index: top}}}},
		{id: 8, b: []byte{0x80, 1}, m: api.Module{Starts: []int{128}}},
		{id: 9, b: join([]byte{6, 0, 0x41, 1, 0x0b, 2, 5, 0x80, 1, 1, 0, 0, 3, 0, 1, 4, 4, 0x41, 2, 0x0b, 2, 0xd0, 0x70, 0x0b, 0xd2, 6, 0x0b},
			[]byte{5, 0x70, 1, 0xd0, 0x70, 0x0b, 7, 0x70, 2, 0xd2}, most, []byte{0x0b, 0xd0, 0x70, 0x0b}),
			m: api.Module{Elems: []api.Elem{{Offset: expr(1), Funcs: []int{5, 128}}, {Mode: api.Passive}, {Mode: api.Declared, Funcs: []int{4}},
				{Offset: expr(2), Funcs: []int{-1, 6}}, {Mode: api.Passive, Funcs: []int{-1}}, {Mode: api.Declared, Funcs: []int{top, -1}}}}},
		{id: 12, b: []byte{2}, need: []byte{11, 7, 2, 1, 0, 1, 2, 8, 9},
			m: api.Module{Counts: []int{2}, Datas: []api.Data{{Mode: api.Passive}, {Mode: api.Passive, Bytes: []byte{8, 9}}}}},
		{id: 10, b: []byte{3, 2, 0, 0x0b, 8, 2, 2, 0x7f, 1, 0x7e, 0x20, 0, 0x0b, 8, 3, 1, 0x7e, 1, 0x7f, 62, 0x7e, 0x0b}, need: []byte{3, 4, 3, 0, 1, 2},
			m: api.Module{Funcs: []api.Func{{Body: []api.Instr{{Op: 0xb}}}, {Type: 1, Locals: []int{0x7f, 0x7f, 0x7e}, Body: []api.Instr{{Op: 0x20}, {Op: 0xb}}},
				{Type: 2, Locals: join2([]int{0x7e, 0x7f}, slices.Repeat([]int{0x7e}, 62)), Body: []api.Instr{{Op: 0xb}}}}}},
		{id: 11, b: []byte{3, 0, 0x41, 3, 0x0b, 2, 0x0b, 0xff, 1, 0, 0, 0x41, 4, 0x0b, 0},
			m: api.Module{Datas: []api.Data{{Offset: expr(3), Bytes: []byte{0x0b, 0xff}}, {Mode: api.Passive}, {Offset: expr(4)}}}},
		{id: 0, b: []byte{1, 'x', 7, 8}, m: api.Module{Customs: []api.Custom{{Name: "x", Bytes: []byte{7, 8}}}}},
	}
}

func join2(parts ...[]int) []int { return slices.Concat(parts...) }

// alone is a module of this part, and of what it needs.
func (p part) alone() []byte { return p.with(p.b) }

// with other bytes in its section.
func (p part) with(b []byte) []byte {
	if p.id == 10 {
		return begin(p.need, sec(p.id, b...))
	}
	return begin(sec(p.id, b...), p.need)
}

// full is all of them: its functions have the types of the section 3 and the codes of 10, and 3
// datas are counted.
func full() ([]byte, api.Module) {
	b := begin()
	var m api.Module
	for _, p := range parts() {
		switch p.id {
		case 3:
			continue
		case 12:
			p.b, p.m = []byte{3}, api.Module{Counts: []int{3}}
		case 10:
			b = append(b, sec(10, p.b...)...)
			m.Funcs = p.m.Funcs
			for i, n := range []int{2, 0, 200} {
				m.Funcs[i].Type = n
			}
			continue
		}
		b = append(b, sec(p.id, p.b...)...)
		if p.id == 2 {
			b = append(b, 3, 5, 3, 2, 0, 0xc8, 1)
		}
		into := reflect.ValueOf(&m).Elem()
		for i := range into.NumField() {
			if f := reflect.ValueOf(p.m).Field(i); f.Len() > 0 {
				into.Field(i).Set(f)
			}
		}
	}
	return b, m
}

// P8.1, P8.2: each section alone, and all of them, there and back.
func TestParts(t *testing.T) {
	for _, p := range parts() {
		decodes(t, p.alone(), p.m, api.OK)
		againstModel(t, p.alone())
		encodes(t, p.m)
		if b, e := Encode(p.m); e != api.OK || !bytes.Equal(b, p.alone()) {
			t.Errorf("Encode(%s) = %s, %d; want %s", tell(p.m), brief(b), e, brief(p.alone()))
		}
	}
	b, m := full()
	decodes(t, b, m, api.OK)
	againstModel(t, b)
	encodes(t, m)
	if c, e := Encode(m); e != api.OK || !bytes.Equal(c, b) {
		t.Errorf("Encode(%s) = %s, %d; want %s", tell(m), brief(c), e, brief(b))
	}
	decodes(t, begin(), api.Module{}, api.OK)
	encodes(t, api.Module{})
	if c, e := Encode(api.Module{}); e != api.OK || !bytes.Equal(c, begin()) || !Formed(api.Module{}) {
		t.Errorf("% x, %d", c, e)
	}
}

// P8.1: a list of nothing is a section, too. Starts and Counts are no lists.
func TestEmptySections(t *testing.T) {
	for _, id := range []byte{1, 2, 3, 4, 5, 6, 7, 9, 10, 11} {
		decodes(t, begin(sec(id, 0)), api.Module{}, api.OK)
		decodes(t, begin(sec(id, 0x80, 0)), api.Module{}, api.OK)
		fails(t, begin(sec(id, 0, 0)), api.ErrForm)
		fails(t, begin(sec(id)), api.ErrShort)
	}
	decodes(t, begin(sec(8, 0)), api.Module{Starts: []int{0}}, api.OK)
	decodes(t, begin(sec(12, 0)), api.Module{Counts: []int{0}}, api.OK)
	decodes(t, begin(sec(12, 0), sec(11, 0)), api.Module{Counts: []int{0}}, api.OK)
	decodes(t, begin(sec(3, 0), sec(10, 0)), api.Module{}, api.OK)
	decodes(t, begin(sec(8, most...)), api.Module{Starts: []int{top}}, api.OK)
	fails(t, begin(sec(8)), api.ErrShort)
	fails(t, begin(sec(12)), api.ErrShort)
	fails(t, begin(sec(8, 0, 0)), api.ErrForm)
	fails(t, begin(sec(12, 0, 0)), api.ErrForm)
	fails(t, begin(sec(0)), api.ErrShort)
}

// P8.1: of each section bytes that end at each place, the section's size told as it is; one byte
// more is left over. A custom section's bytes end nowhere behind its name.
func TestSectionsEnd(t *testing.T) {
	for _, p := range parts() {
		for cut := range p.b {
			if p.id == 0 && cut >= 2 {
				againstModel(t, p.with(p.b[:cut]))
			} else {
				fails(t, p.with(p.b[:cut]), api.ErrShort)
			}
		}
		if p.id != 0 {
			for _, tail := range [][]byte{{0}, {0x0b}, {0x80}, {0xff, 0xff}} {
				fails(t, p.with(join(p.b, tail)), api.ErrForm)
			}
		}
	}
}

// P8.1: a module's bytes that end at each place.
func TestCuts(t *testing.T) {
	b, _ := full()
	for cut := range b {
		againstModel(t, b[:cut])
	}
	for _, p := range parts() {
		b := p.alone()
		for cut := range b {
			againstModel(t, b[:cut])
		}
	}
	for cut := range 8 {
		fails(t, begin()[:cut], api.ErrShort)
	}
	fails(t, []byte{0, 'a', 's', 'm', 2, 0, 0, 0}, api.ErrForm)
	fails(t, []byte{1}, api.ErrForm)
}

// P8.1, P8.3: each byte changed to each other one, and left out, in all sections and in each alone.
func TestChanges(t *testing.T) {
	change := func(b []byte) {
		for i := range b {
			for other := range 256 {
				changed := slices.Clone(b)
				changed[i] = byte(other)
				againstModel(t, changed)
			}
		}
	}
	b, _ := full()
	change(b)
	for _, p := range parts() {
		change(p.alone())
		for i := range p.b {
			againstModel(t, p.with(slices.Delete(slices.Clone(p.b), i, i+1)))
			for _, more := range []byte{0, 1, 0x0b, 0x70, 0x7f, 0x80, 0xff} {
				againstModel(t, p.with(slices.Insert(slices.Clone(p.b), i, more)))
			}
		}
	}
}

// P8.1: every section with all bytes of two and with longer ones from bytes at which something
// changes, behind functions and counts that fit and that don't.
func TestShortSections(t *testing.T) {
	ahead := func(id byte, b []byte) {
		againstModel(t, begin(sec(id, b...)))
		switch id {
		case 10:
			againstModel(t, begin(sec(3, 1, 0), sec(id, b...)))
		case 11:
			againstModel(t, begin(sec(12, 1), sec(id, b...)))
		}
	}
	edges := []byte{0, 1, 2, 3, 4, 0x0b, 0x41, 0x60, 0x70, 0x7f, 0x80, 0xd0, 0xd2}
	for id := range byte(14) {
		for x := range 256 {
			ahead(id, []byte{byte(x)})
			for y := range 256 {
				ahead(id, []byte{byte(x), byte(y)})
			}
		}
		for _, x := range edges {
			for _, y := range edges {
				for _, z := range edges {
					ahead(id, []byte{x, y, z})
					ahead(id, []byte{1, x, y, z})
				}
			}
		}
	}
}

// P8.1: what is known but not done here, and what is none, where the one or the other may stand.
func TestWide(t *testing.T) {
	for _, c := range []struct {
		b []byte
		e api.Errno
	}{
		{sec(4, 1, 0x6f, 0, 1), api.ErrWide}, {sec(4, 1, 0x6f), api.ErrWide}, {sec(4, 1, 0x7f, 0, 1), api.ErrForm}, {sec(4, 1, 0, 1), api.ErrForm}, {sec(4, 2, 0x70, 0, 1, 0x6f), api.ErrWide},
		{sec(4, 1, 0x70, 2, 1), api.ErrForm}, {sec(4, 1, 0x70, 0x6f), api.ErrForm},
		{sec(2, 1, 0, 0, 1, 0x6f, 0, 1), api.ErrWide}, {sec(2, 1, 0, 0, 1, 0x6e, 0, 1), api.ErrForm}, {sec(2, 1, 0, 0, 1, 0x70, 4), api.ErrForm}, {sec(2, 1, 0, 0, 2, 0x70, 0, 1), api.ErrForm},
		{sec(2, 1, 0, 0, 3, 0x7d, 0), api.ErrWide}, {sec(2, 1, 0, 0, 3, 0x70), api.ErrWide}, {sec(2, 1, 0, 0, 3, 0x6f, 7), api.ErrWide}, {sec(2, 1, 0, 0, 3, 0x40, 0), api.ErrForm}, {sec(2, 1, 0, 0, 3, 0x7f, 2), api.ErrForm},
		{sec(2, 1, 0, 0, 4, 0), api.ErrForm}, {sec(2, 1, 0, 0, 0x80, 0), api.ErrForm}, {sec(2, 1, 0, 0, 0xff), api.ErrForm},
		{sec(1, 1, 0x60, 1, 0x7c, 0), api.ErrWide}, {sec(1, 1, 0x60, 0, 1, 0x7b), api.ErrWide}, {sec(1, 1, 0x61), api.ErrForm}, {sec(1, 1, 0x5f), api.ErrForm}, {sec(1, 1, 0x60, 1, 0), api.ErrForm},
		{sec(5, 1, 2, 0), api.ErrForm}, {sec(5, 1, 3, 0, 1), api.ErrForm}, {sec(5, 1, 0x70, 0, 1), api.ErrForm},
		{sec(6, 1, 0x7d, 0, 0x43), api.ErrWide}, {sec(6, 1, 0x7f, 2), api.ErrForm}, {sec(6, 1, 0x7f, 0, 0x43), api.ErrWide}, {sec(6, 1, 0x7f, 0, 0xd2), api.ErrWide}, {sec(6, 1, 0x7f, 0, 6), api.ErrForm}, {sec(6, 1, 0x7f, 0, 5, 0x0b), api.ErrForm},
		{sec(7, 1, 0, 4, 0), api.ErrForm}, {sec(7, 1, 0, 0x80, 0), api.ErrForm}, {sec(7, 1, 1, 0xff, 0, 0), api.ErrForm}, {sec(7, 1, 2, 0xc0, 0x80, 0, 0), api.ErrForm},
		{sec(9, 1, 8), api.ErrForm}, {sec(9, 1, 0x88, 0), api.ErrForm}, {sec(9, 1, 0x7f), api.ErrForm}, {sec(9, join([]byte{1}, most)...), api.ErrForm},
		{sec(9, 1, 1, 1, 0), api.ErrForm}, {sec(9, 1, 1, 0x70, 0), api.ErrForm}, {sec(9, 1, 1, 0x6f), api.ErrForm}, {sec(9, 1, 3, 0x80, 0, 0), api.ErrForm}, {sec(9, 1, 2, 0, 0x0b, 0x70), api.ErrForm},
		{sec(9, 1, 5, 0x6f, 0), api.ErrWide}, {sec(9, 1, 5, 0, 0), api.ErrForm}, {sec(9, 1, 7, 0x6f, 0), api.ErrWide}, {sec(9, 1, 7, 0x7f, 0), api.ErrForm}, {sec(9, 1, 6, 0, 0x0b, 0x6f), api.ErrWide}, {sec(9, 1, 6, 0, 0x0b, 0), api.ErrForm},
		{sec(9, 1, 2, 1), api.ErrWide}, {sec(9, 1, 6, 1, 0x0b), api.ErrWide}, {sec(9, join([]byte{1, 2}, most)...), api.ErrWide}, {sec(9, 1, 6, 0x81, 0), api.ErrWide}, {sec(9, 1, 0, 0x43), api.ErrWide}, {sec(9, 1, 4, 6), api.ErrForm},
		{sec(9, 1, 5, 0x70, 1, 0x23, 0, 0x0b), api.ErrWide}, {sec(9, 1, 5, 0x70, 1, 0), api.ErrWide}, {sec(9, 1, 5, 0x70, 1, 0x0b), api.ErrWide}, {sec(9, 1, 5, 0x70, 1, 0xff), api.ErrWide}, {sec(9, 1, 5, 0x70, 1, 0xd1), api.ErrWide},
		{sec(9, 1, 5, 0x70, 1, 0xd0, 0x6f, 0x0b), api.ErrWide}, {sec(9, 1, 5, 0x70, 1, 0xd0, 0x71), api.ErrForm}, {sec(9, 1, 5, 0x70, 1, 0xd0, 0x70, 0), api.ErrForm}, {sec(9, 1, 5, 0x70, 1, 0xd2, 0, 0), api.ErrForm}, {sec(9, 1, 5, 0x70, 1, 0xd2, 0, 0x0c, 0x0b), api.ErrForm},
		{sec(11, 1, 3), api.ErrForm}, {sec(11, 1, 0x83, 0), api.ErrForm}, {sec(11, join([]byte{1}, most)...), api.ErrForm}, {sec(11, 1, 2, 1), api.ErrWide}, {sec(11, 1, 2, 0x81, 0, 0x0b), api.ErrWide}, {sec(11, join([]byte{1, 2}, most)...), api.ErrWide},
		{sec(11, 1, 0, 0x44), api.ErrWide}, {sec(11, 1, 0, 0x12), api.ErrForm}, {sec(11, 1, 2, 0, 0x0b, 0), api.OK},
		{join(sec(3, 1, 0), sec(10, 1, 4, 1, 1, 0x7d, 0x0b)), api.ErrWide}, {join(sec(3, 1, 0), sec(10, 1, 4, 1, 0, 0x7d, 0x0b)), api.ErrWide}, {join(sec(3, 1, 0), sec(10, 1, 4, 1, 1, 0x40, 0x0b)), api.ErrForm}, {join(sec(3, 1, 0), sec(10, 1, 4, 1, 0, 0x60, 0x0b)), api.ErrForm},
		{join(sec(3, 1, 0), sec(10, 1, 3, 0, 0x43, 0x0b)), api.ErrWide}, {join(sec(3, 1, 0), sec(10, 1, 3, 0, 0x06, 0x0b)), api.ErrForm}, {join(sec(3, 1, 0), sec(10, 1, 3, 0, 5, 0x0b)), api.ErrForm},
	} {
		if c.e != api.OK {
			fails(t, begin(c.b), c.e)
		}
		againstModel(t, begin(c.b))
	}
}

// lists are sections whose lists have so many things, and nothing else wrong.
func lists(n int) []struct {
	name string
	b    []byte
} {
	many := func(b ...byte) []byte { return join(u(n), bytes.Repeat(b, n)) }
	return []struct {
		name string
		b    []byte
	}{
		{"types", sec(1, many(0x60, 0, 0)...)}, {"imports", sec(2, many(0, 0, 0, 0)...)}, {"functions", join(sec(3, many(0)...), sec(10, many(2, 0, 0x0b)...))}, {"tables", sec(4, many(0x70, 0, 0)...)}, {"memories", sec(5, many(0, 0)...)},
		{"globals", sec(6, many(0x7f, 0, 0x0b)...)}, {"exports", sec(7, many(0, 0, 0)...)}, {"elements", sec(9, many(1, 0, 0)...)}, {"datas", sec(11, many(1, 0)...)}, {"counted datas", join(sec(12, u(n)...), sec(11, many(1, 0)...))},
		{"numbers of form 0", sec(9, join([]byte{1, 0, 0x0b}, many(0))...)}, {"numbers of form 1", sec(9, join([]byte{1, 1, 0}, many(0))...)}, {"numbers of form 2", sec(9, join([]byte{1, 2, 0, 0x0b, 0}, many(0))...)}, {"numbers of form 3", sec(9, join([]byte{1, 3, 0}, many(0))...)},
		{"entries of form 4", sec(9, join([]byte{1, 4, 0x0b}, many(0xd2, 0, 0x0b))...)}, {"entries of form 5", sec(9, join([]byte{1, 5, 0x70}, many(0xd0, 0x70, 0x0b))...)}, {"entries of form 6", sec(9, join([]byte{1, 6, 0, 0x0b, 0x70}, many(0xd2, 0, 0x0b))...)}, {"entries of form 7", sec(9, join([]byte{1, 7, 0x70}, many(0xd0, 0x70, 0x0b))...)},
	}
}

// P8.1, P8.2: lists of 64 and of 65 things, and a number of things that is told alone.
func TestLists(t *testing.T) {
	for _, n := range []int{0, 1, 2, 63, 64} {
		for _, c := range lists(n) {
			if m, e := Decode(begin(c.b)); e != api.OK || !Formed(m) {
				t.Errorf("%d %s: %d", n, c.name, e)
			}
			againstModel(t, begin(c.b))
		}
	}
	for _, n := range []int{65, 66, 127, 128, 1000} {
		for _, c := range lists(n) {
			if m, e := Decode(begin(c.b)); e != api.ErrLong || !same(m, api.Module{}) {
				t.Errorf("%d %s: %d", n, c.name, e)
			}
		}
	}
	for _, id := range []byte{1, 2, 3, 4, 5, 6, 7, 9, 11} {
		for _, n := range [][]byte{{65}, {0xc1, 0}, {0x80, 0x80, 4}, most} {
			fails(t, begin(sec(id, n...)), api.ErrLong)
			fails(t, begin(sec(id, join(n, []byte{0xff})...)), api.ErrLong)
		}
		fails(t, begin(sec(id, 64)), api.ErrShort)
		fails(t, begin(sec(id, 0xc1)), api.ErrShort)
		fails(t, begin(sec(id, 0xff, 0xff, 0xff, 0xff, 0x1f)), api.ErrForm)
	}
	for form, ahead := range [][]byte{{0, 0x0b}, {1, 0}, {2, 0, 0x0b, 0}, {3, 0}, {4, 0x0b}, {5, 0x70}, {6, 0, 0x0b, 0x70}, {7, 0x70}} {
		for _, n := range [][]byte{{65}, {0xc1, 0}, most} {
			fails(t, begin(sec(9, join([]byte{1}, ahead, n, []byte{0xff})...)), api.ErrLong)
		}
		if form >= 4 {
			fails(t, begin(sec(9, join([]byte{1}, ahead, []byte{64, 0xff})...)), api.ErrWide)
		}
	}
}

// P8.1: lists of types' values have a limit of their own, of bytes and of pairs of locals none.
func TestLongLists(t *testing.T) {
	eight := bytes.Repeat([]byte{0x7f}, 8)
	decodes(t, begin(sec(1, join([]byte{1, 0x60, 8}, eight, []byte{8}, eight)...)), api.Module{Types: []api.FuncType{{Params: slices.Repeat([]int{0x7f}, 8), Results: slices.Repeat([]int{0x7f}, 8)}}}, api.OK)
	fails(t, begin(sec(1, 1, 0x60, 9)), api.ErrLong)
	fails(t, begin(sec(1, 1, 0x60, 0, 9)), api.ErrLong)
	for _, n := range []int{64, 65, 127, 128, 5000, 60000} {
		blob := bytes.Repeat([]byte{0xaa}, n)
		b := begin(sec(11, join([]byte{1, 1}, u(n), blob)...))
		decodes(t, b, api.Module{Datas: []api.Data{{Mode: api.Passive, Bytes: blob}}}, api.OK)
		againstModel(t, b)
		pairs := bytes.Repeat([]byte{0, 0x7e}, n/2)
		b = begin(sec(3, 1, 0), sec(10, join([]byte{1}, sized(join(u(n/2), pairs, []byte{0x0b})))...))
		decodes(t, b, api.Module{Funcs: []api.Func{{Body: []api.Instr{{Op: 0xb}}}}}, api.OK)
		againstModel(t, b)
		b = begin(bytes.Repeat(sec(0, 0), n/4))
		decodes(t, b, api.Module{Customs: make([]api.Custom, n/4)}, api.OK)
		againstModel(t, b)
	}
	for _, n := range []string{"", longer[1:], longer} {
		decodes(t, begin(sec(0, text(n)...)), api.Module{Customs: []api.Custom{{Name: n}}}, api.OK)
		decodes(t, begin(sec(2, join([]byte{1}, text(n), text(n), []byte{0, 0})...)), api.Module{Imports: []api.Import{{Module: n, Name: n}}}, api.OK)
		decodes(t, begin(sec(7, join([]byte{1}, text(n), []byte{0, 0})...)), api.Module{Exports: []api.Export{{Name: n}}}, api.OK)
	}
	n := longer + "n"
	fails(t, begin(sec(0, text(n)...)), api.ErrLong)
	fails(t, begin(sec(2, join([]byte{1}, text(n), text(n), []byte{0, 0})...)), api.ErrLong)
	fails(t, begin(sec(2, join([]byte{1, 0}, text(n))...)), api.ErrLong)
	fails(t, begin(sec(7, join([]byte{1}, text(n), []byte{9})...)), api.ErrLong)
	fails(t, begin(sec(7, join([]byte{1}, text(longer+"\xff"))...)), api.ErrForm)
}

// code is a function's module, whose code has these pairs of locals and this rest.
func code(rest []byte, pairs ...int) []byte {
	b := u(len(pairs))
	for i, n := range pairs {
		b = append(append(b, u(n)...), byte(0x7f-i%2))
	}
	return begin(sec(3, 1, 0), sec(10, join([]byte{1}, sized(join(b, rest)))...))
}

// P8.1: 64 and 65 locals, in one pair and in several, and pairs of none. The number that is too
// great is told ahead of the type behind it, and of a number of pairs that are not there.
func TestLocals(t *testing.T) {
	end := []byte{0x0b}
	ones := slices.Repeat([]int{1}, 64)
	for _, c := range []struct {
		pairs []int
		e     api.Errno
	}{
		{nil, api.OK}, {[]int{0}, api.OK}, {[]int{1}, api.OK}, {[]int{63}, api.OK}, {[]int{64}, api.OK}, {[]int{65}, api.ErrLong}, {[]int{128}, api.ErrLong}, {[]int{1 << 31}, api.ErrLong}, {[]int{top}, api.ErrLong},
		{[]int{32, 32}, api.OK}, {[]int{32, 33}, api.ErrLong}, {[]int{64, 0}, api.OK}, {[]int{0, 64}, api.OK}, {[]int{64, 1}, api.ErrLong}, {[]int{0, 65}, api.ErrLong}, {[]int{1, top}, api.ErrLong}, {[]int{64, top}, api.ErrLong}, {[]int{1, top, 1}, api.ErrLong},
		{ones, api.OK}, {join2(ones, []int{0, 0}), api.OK}, {join2(ones, []int{1}), api.ErrLong}, {join2(ones, []int{0, 0, 1}), api.ErrLong}, {make([]int, 300), api.OK}, {join2(make([]int, 300), []int{65}), api.ErrLong}, {[]int{0, 3, 0, 4, 0}, api.OK},
	} {
		var l []int
		for i, n := range c.pairs {
			if c.e == api.OK {
				l = append(l, slices.Repeat([]int{0x7f - i%2}, n)...)
			}
		}
		b := code(end, c.pairs...)
		againstModel(t, b)
		if c.e == api.OK {
			decodes(t, b, api.Module{Funcs: []api.Func{{Locals: l, Body: []api.Instr{{Op: 0xb}}}}}, api.OK)
		} else {
			fails(t, b, c.e)
		}
	}
	for _, c := range []struct {
		b []byte // a code's bytes
		e api.Errno
	}{
		{[]byte{1, 65}, api.ErrLong}, {[]byte{1, 65, 0}, api.ErrLong}, {[]byte{1, 65, 0x7d, 0x0b}, api.ErrLong}, {[]byte{2, 60, 0x7f, 5}, api.ErrLong}, {[]byte{9, 60, 0x7f, 5, 0xff}, api.ErrLong}, {[]byte{0xff, 0xff, 0xff, 0xff, 0x0f, 65}, api.ErrLong},
		{[]byte{1, 64}, api.ErrShort}, {[]byte{1, 64, 0}, api.ErrForm}, {[]byte{1, 64, 0x7d}, api.ErrWide}, {[]byte{2, 60, 0x7d, 5}, api.ErrWide}, {[]byte{2, 64, 0x7f, 0x0b}, api.ErrLong}, {[]byte{2, 64, 0x7f, 0}, api.ErrShort}, {[]byte{2, 64, 0x7f}, api.ErrShort}, {[]byte{1, 64, 0x7f}, api.ErrShort},
		{[]byte{0xff, 0xff, 0xff, 0xff, 0x0f}, api.ErrShort}, {[]byte{0xff, 0xff, 0xff, 0xff, 0x0f, 0, 0x7f}, api.ErrShort}, {[]byte{65, 1, 0x7f, 0x0b}, api.ErrShort}, {[]byte{0xff, 0xff, 0xff, 0xff, 0x1f}, api.ErrForm}, {[]byte{1, 0xff, 0xff, 0xff, 0xff, 0x1f}, api.ErrForm},
	} {
		fails(t, begin(sec(3, 1, 0), sec(10, join([]byte{1}, sized(c.b))...)), c.e)
	}
}

// P8.1: a code's bytes that end at each place within the section, and bytes that are left over.
func TestCodesEnd(t *testing.T) {
	inner := []byte{2, 2, 0x7f, 1, 0x7e, 0x04, 0x7f, 0x41, 0x80, 0x01, 0x05, 0x0b, 0x0b}
	two := func(b []byte) []byte {
		return begin(sec(3, 2, 0, 0), sec(10, join([]byte{2}, sized(b), []byte{2, 0, 0x0b})...))
	}
	if m, e := Decode(two(inner)); e != api.OK || len(m.Funcs) != 2 || len(m.Funcs[0].Body) != 5 {
		t.Fatalf("%s, %d", tell(m), e)
	}
	for cut := range inner {
		fails(t, two(inner[:cut]), api.ErrShort)
		againstModel(t, two(inner[:cut]))
	}
	for _, tail := range [][]byte{{0}, {0x0b}, {0x80}, {0xff, 0xff}} {
		fails(t, two(join(inner, tail)), api.ErrForm)
		againstModel(t, two(join(inner, tail)))
	}
	for _, c := range []struct {
		b []byte // the section 10, of one code
		e api.Errno
	}{
		{[]byte{1}, api.ErrShort}, {[]byte{1, 0x80}, api.ErrShort}, {[]byte{1, 0}, api.ErrShort}, {[]byte{1, 1, 0}, api.ErrShort}, {[]byte{1, 2, 0, 0x0b}, api.OK}, {[]byte{1, 0x82, 0x80, 0, 0, 0x0b}, api.OK},
		{[]byte{1, 3, 0, 0x0b}, api.ErrShort}, {[]byte{1, 3, 0xff, 0xff}, api.ErrShort}, {[]byte{1, 9, 1, 65}, api.ErrShort}, {[]byte{1, 0xff, 0xff, 0xff, 0xff, 0x0f, 0, 6}, api.ErrShort}, {[]byte{1, 0xff, 0xff, 0xff, 0xff, 0x1f, 0, 0x0b}, api.ErrForm},
		{[]byte{1, 2, 0, 0x0b, 0}, api.ErrForm}, {[]byte{1, 3, 0, 0x0b, 0}, api.ErrForm}, {[]byte{1, 1, 0, 0x0b}, api.ErrShort}, {[]byte{1, 3, 0, 0x41, 0, 0x0b}, api.ErrShort},
	} {
		b := begin(sec(3, 1, 0), sec(10, c.b...))
		if c.e != api.OK {
			fails(t, b, c.e)
		}
		againstModel(t, b)
	}
}

// P8.1: the sections 10 and 3, 11 and 12 say the same number. Another one is told as soon as it is
// read, ahead of its being too great; a section that is missing at the end.
func TestNumbersAgree(t *testing.T) {
	codes := func(n int) []byte { return join(u(n), bytes.Repeat([]byte{2, 0, 0x0b}, n)) }
	datas := func(n int) []byte { return join(u(n), bytes.Repeat([]byte{1, 0}, n)) }
	for a := range 4 {
		for b := range 4 {
			e := api.ErrForm
			if a == b {
				e = api.OK
			}
			for _, c := range [][]byte{
				begin(sec(3, join(u(a), make([]byte, a))...), sec(10, codes(b)...)),
				begin(sec(12, byte(a)), sec(11, datas(b)...)),
				begin(sec(12, byte(a)), sec(10, 0), sec(11, datas(b)...)),
			} {
				if _, f := Decode(c); f != e {
					t.Errorf("% x: %d; want %d", c, f, e)
				}
				againstModel(t, c)
			}
		}
	}
	for _, c := range []struct {
		b []byte
		e api.Errno
	}{
		{sec(10, 1), api.ErrForm}, {sec(10, 1, 0xff), api.ErrForm}, {sec(10, 65), api.ErrForm}, {sec(10, most...), api.ErrForm}, {join(sec(3, 1, 0), sec(10, 65)), api.ErrForm}, {join(sec(3, 1, 0), sec(10, 2, 1)), api.ErrForm}, {join(sec(3, 1, 0), sec(10, 0)), api.ErrForm}, {join(sec(3, 0), sec(10, 1)), api.ErrForm},
		{sec(3, 1, 0), api.ErrForm}, {join(sec(3, 1, 0), sec(11, 0)), api.ErrForm}, {join(sec(3, 1, 0), sec(0, 0)), api.ErrForm}, {sec(3, join(u(64), make([]byte, 64))...), api.ErrForm},
		{sec(12, 1), api.ErrForm}, {join(sec(12, 1), sec(10, 0)), api.ErrForm}, {sec(12, 65), api.ErrForm}, {sec(12, most...), api.ErrForm}, {sec(12, 0x80, 0x80, 0), api.OK}, {sec(12, 0), api.OK}, {join(sec(12, 0), sec(10, 0), sec(0, 0)), api.OK},
		{join(sec(12, 1), sec(11, 2)), api.ErrForm}, {join(sec(12, 3), sec(11, 65)), api.ErrForm}, {join(sec(12, 0), sec(11, 65)), api.ErrForm}, {join(sec(12, 65), sec(11, 65)), api.ErrLong}, {join(sec(12, most...), sec(11, most...)), api.ErrLong}, {join(sec(12, 65), sec(11, 64)), api.ErrForm}, {sec(11, 65), api.ErrLong}, {join(sec(12, 65), sec(11, 0xc1)), api.ErrShort},
		{join(sec(12, 1), sec(11, 0)), api.ErrForm}, {join(sec(12, 0), sec(11, 1, 0xff)), api.ErrForm}, {join(sec(3, 1, 0), sec(12, 1)), api.ErrForm},
		// What is missing is told at the end, behind all that stands ahead of it.
		{join(sec(3, 1, 0), sec(11, 1)), api.ErrShort}, {join(sec(3, 1, 0), sec(11, 65)), api.ErrLong}, {join(sec(3, 1, 0), sec(0, 1)), api.ErrShort}, {join(sec(3, 1, 0), []byte{11}), api.ErrShort}, {join(sec(3, 1, 0), sec(4, 1, 0x6f)), api.ErrWide},
		{join(sec(12, 1), sec(0, 9)), api.ErrShort}, {join(sec(12, 1), []byte{10, 0x80}), api.ErrShort}, {join(sec(12, 1), sec(0, text(longer+"n")...)), api.ErrLong},
	} {
		if c.e != api.OK {
			fails(t, begin(c.b), c.e)
		}
		againstModel(t, begin(c.b))
	}
}

// P8.1: a section's bytes are looked at ahead of the next section, and of what follows the error;
// within a section the first error is told.
func TestFirstError(t *testing.T) {
	for _, bad := range []struct {
		b []byte
		e api.Errno
	}{
		{sec(4, 1, 0x6f, 0, 0), api.ErrWide}, {sec(4, 65), api.ErrLong}, {sec(4, 1), api.ErrShort}, {sec(4, 0, 0), api.ErrForm}, {sec(4, 1, 0x6f, 0xff), api.ErrWide}, {sec(4, 2, 0x70, 0, 0, 0), api.ErrForm}, {sec(4, 65, 0x6f), api.ErrLong},
		{[]byte{4}, api.ErrShort}, {[]byte{13}, api.ErrForm}, {[]byte{1, 1, 65}, api.ErrForm}, {[]byte{4, 9, 1, 0x6f}, api.ErrShort}, {[]byte{4, 0x80}, api.ErrShort}, {[]byte{4, 0xff, 0xff, 0xff, 0xff, 0xff}, api.ErrForm},
		{sec(0), api.ErrShort}, {sec(0, 1, 0xff), api.ErrForm}, {sec(0, text(longer+"n")...), api.ErrLong},
	} {
		ahead := begin(sec(1, 0), sec(0, 0), sec(2, 0))
		fails(t, join(ahead, bad.b), bad.e)
		if bad.b[0] == 4 && len(bad.b) > 1 && int(bad.b[1]) == len(bad.b)-2 || bad.b[0] == 0 {
			for _, behind := range [][]byte{{13}, {4, 0}, {4, 1, 1}, {5}, {5, 9}, sec(5, 1, 9), sec(5, 65), sec(1, 0), sec(6, 1, 0x7d), sec(0), {0xff}} {
				fails(t, join(ahead, bad.b, behind), bad.e)
			}
		}
		for _, first := range []struct {
			b []byte
			e api.Errno
		}{{sec(3, 65), api.ErrLong}, {sec(3, 1), api.ErrShort}, {sec(3, 1, 0, 0), api.ErrForm}, {sec(0, 2, 0), api.ErrShort}} {
			fails(t, join(ahead, first.b, bad.b), first.e)
		}
	}
	for _, c := range []struct {
		b []byte
		e api.Errno
	}{
		{sec(2, 2, 0, 0, 3, 0x7d, 9, 0xff), api.ErrWide}, {sec(2, 2, 0, 0, 4, 0x7d), api.ErrForm}, {sec(2, 1, 1, 0xff, 0xff, 0xff), api.ErrForm}, {sec(2, 1, 5, 'a'), api.ErrShort}, {sec(2, 1, 0, 9, 0xff), api.ErrShort}, {sec(2, 1, 0, 1, 0xff, 9), api.ErrForm},
		{sec(6, 1, 0x7d, 2, 0x43), api.ErrWide}, {sec(6, 1, 0x7f, 2, 0x43), api.ErrForm}, {sec(6, 1, 0x7f, 1, 0x43, 6), api.ErrWide}, {sec(6, 1, 0x7f, 1, 6, 0x43), api.ErrForm}, {sec(6, 2, 0x7f, 1, 0x0b, 0x7c), api.ErrWide},
		{sec(9, 1, 2, 1, 6), api.ErrWide}, {sec(9, 1, 2, 0, 6, 1), api.ErrForm}, {sec(9, 1, 2, 0x80), api.ErrShort}, {sec(9, 1, 6, 0, 0x0b, 0x6f, 65), api.ErrWide}, {sec(9, 1, 6, 0, 0x0b, 0x70, 65), api.ErrLong}, {sec(9, 1, 1, 1, 65), api.ErrForm}, {sec(9, 2, 8, 65), api.ErrForm},
		{sec(9, 1, 5, 0x70, 2, 0xd0, 0x6f, 0, 0), api.ErrWide}, {sec(9, 1, 5, 0x70, 2, 0xd0, 0x70, 0, 0x23), api.ErrForm}, {sec(9, 1, 5, 0x70, 2, 0xd2, 0x80), api.ErrShort}, {sec(9, 1, 5, 0x70, 2, 0xd2, 0xff, 0xff, 0xff, 0xff, 0x1f), api.ErrForm}, {sec(9, 1, 5, 0x70, 2, 0xd2, 3), api.ErrShort}, {sec(9, 1, 5, 0x70, 1, 0xd0), api.ErrShort}, {sec(9, 1, 5, 0x70, 1), api.ErrShort},
		{sec(11, 2, 2, 1, 3), api.ErrWide}, {sec(11, 2, 1, 0, 3), api.ErrForm}, {sec(11, 2, 1, 5, 3), api.ErrShort}, {sec(11, 1, 1, 0xff, 0xff, 0xff, 0xff, 0x0f, 3), api.ErrShort}, {sec(11, 1, 1, 0xff, 0xff, 0xff, 0xff, 0x1f, 3), api.ErrForm},
		{sec(12, 0x80), api.ErrShort}, {sec(8, 0xff, 0xff, 0xff, 0xff, 0x1f, 0), api.ErrForm},
	} {
		fails(t, begin(c.b), c.e)
		againstModel(t, begin(c.b))
	}
}

// P8.1: numbers in longer forms than needed are the same numbers.
func TestLongerForms(t *testing.T) {
	end := []api.Instr{{Op: 0xb}}
	for _, c := range []struct {
		b []byte
		m api.Module
	}{
		{[]byte{1, 0x87, 0x80, 0, 0x81, 0x80, 0, 0x60, 0x80, 0, 0}, api.Module{Types: []api.FuncType{{}}}},
		{sec(2, 0x81, 0, 0x81, 0x80, 0, 'm', 0x80, 0, 0, 0x83, 0), api.Module{Imports: []api.Import{{Module: "m", Type: 3}}}},
		{join(sec(3, 0x81, 0, 0x80, 0), sec(10, 0x81, 0, 0x8a, 0, 0x82, 0, 0x81, 0, 0x7f, 0x82, 0, 0x7f, 1, 0x0b)), api.Module{Funcs: []api.Func{{Locals: []int{0x7f, 0x7f, 0x7f}, Body: []api.Instr{{Op: 1}, {Op: 0xb}}}}}},
		{sec(4, 0x81, 0, 0x70, 1, 0x80, 0, 0x85, 0), api.Module{Tables: []api.Limits{{Capped: true, Max: 5}}}},
		{sec(6, 1, 0x7f, 0, 0x41, 0x80, 0, 0x0b), api.Module{Globals: []api.Global{{Type: 0x7f, Init: zeroes}}}},
		{sec(7, 1, 0x80, 0, 0, 0x80, 0x80, 0), api.Module{Exports: []api.Export{{}}}},
		{sec(8, 0x80, 0x80, 0x80, 0x80, 0), api.Module{Starts: []int{0}}},
		{sec(9, 1, 0x80, 0, 0x0b, 0x81, 0, 0x82, 0), api.Module{Elems: []api.Elem{{Offset: end, Funcs: []int{2}}}}},
		{sec(9, 1, 0x82, 0, 0x80, 0, 0x0b, 0, 0x80, 0), api.Module{Elems: []api.Elem{{Offset: end}}}},
		{sec(9, 1, 0x87, 0x80, 0, 0x70, 0x81, 0, 0xd2, 0x82, 0, 0x0b), api.Module{Elems: []api.Elem{{Mode: api.Declared, Funcs: []int{2}}}}},
		{join(sec(12, 0x81, 0), sec(11, 0x81, 0, 0x82, 0, 0x80, 0, 0x0b, 0x81, 0, 9)), api.Module{Counts: []int{1}, Datas: []api.Data{{Offset: end, Bytes: []byte{9}}}}},
		{sec(11, 1, 0x81, 0, 0x81, 0x80, 0, 9), api.Module{Datas: []api.Data{{Mode: api.Passive, Bytes: []byte{9}}}}},
		{[]byte{0, 0x84, 0, 0x81, 0, 'x', 7}, api.Module{Customs: []api.Custom{{Name: "x", Bytes: []byte{7}}}}},
	} {
		decodes(t, begin(c.b), c.m, api.OK)
		againstModel(t, begin(c.b))
		encodes(t, c.m)
	}
}

// P8.1, P8.2: every form of an element segment, those that Encode never gives included.
func TestElems(t *testing.T) {
	end := []api.Instr{{Op: 0xb}}
	for _, c := range []struct {
		b, short []byte // as it stands, and as Encode gives it
		x        api.Elem
	}{
		{[]byte{0, 0x0b, 1, 7}, nil, api.Elem{Offset: end, Funcs: []int{7}}},
		{[]byte{1, 0, 2, 7, 0}, nil, api.Elem{Mode: 1, Funcs: []int{7, 0}}},
		{[]byte{2, 0, 0x41, 0, 0x0b, 0, 1, 7}, []byte{0, 0x41, 0, 0x0b, 1, 7}, api.Elem{Offset: zeroes, Funcs: []int{7}}},
		{[]byte{3, 0, 1, 7}, nil, api.Elem{Mode: 2, Funcs: []int{7}}},
		{[]byte{4, 0x0b, 1, 0xd2, 7, 0x0b}, []byte{0, 0x0b, 1, 7}, api.Elem{Offset: end, Funcs: []int{7}}},
		{[]byte{4, 0x0b, 2, 0xd2, 7, 0x0b, 0xd0, 0x70, 0x0b}, nil, api.Elem{Offset: end, Funcs: []int{7, -1}}},
		{[]byte{4, 0x0b, 0}, []byte{0, 0x0b, 0}, api.Elem{Offset: end}},
		{[]byte{5, 0x70, 1, 0xd2, 7, 0x0b}, []byte{1, 0, 1, 7}, api.Elem{Mode: 1, Funcs: []int{7}}},
		{[]byte{5, 0x70, 1, 0xd0, 0x70, 0x0b}, nil, api.Elem{Mode: 1, Funcs: []int{-1}}},
		{[]byte{5, 0x70, 0}, []byte{1, 0, 0}, api.Elem{Mode: 1}},
		{[]byte{6, 0, 0x0b, 0x70, 1, 0xd2, 7, 0x0b}, []byte{0, 0x0b, 1, 7}, api.Elem{Offset: end, Funcs: []int{7}}},
		{[]byte{6, 0, 0x0b, 0x70, 1, 0xd0, 0x70, 0x0b}, []byte{4, 0x0b, 1, 0xd0, 0x70, 0x0b}, api.Elem{Offset: end, Funcs: []int{-1}}},
		{[]byte{7, 0x70, 1, 0xd2, 7, 0x0b}, []byte{3, 0, 1, 7}, api.Elem{Mode: 2, Funcs: []int{7}}},
		{[]byte{7, 0x70, 2, 0xd0, 0x70, 0x0b, 0xd2, 7, 0x0b}, nil, api.Elem{Mode: 2, Funcs: []int{-1, 7}}},
	} {
		if c.short == nil {
			c.short = c.b
		}
		m := api.Module{Elems: []api.Elem{c.x}}
		decodes(t, begin(sec(9, join([]byte{1}, c.b)...)), m, api.OK)
		encodes(t, m)
		if b, e := Encode(m); e != api.OK || !bytes.Equal(b, begin(sec(9, join([]byte{1}, c.short)...))) {
			t.Errorf("Encode(%s) = % x, %d; want % x", tell(m), b, e, c.short)
		}
		for cut := range c.b {
			fails(t, begin(sec(9, join([]byte{1}, c.b[:cut])...)), api.ErrShort)
		}
	}
}

// P8.1, P8.2: custom sections stand between all others, and go to the end in their order.
func TestCustoms(t *testing.T) {
	plain, m := full()
	var b []byte
	b = append(b, begin()...)
	m.Customs = nil
	n := byte(0)
	custom := func() {
		b = append(b, sec(0, 1, 'a'+n, n)...)
		m.Customs = append(m.Customs, api.Custom{Name: string(rune('a' + n)), Bytes: []byte{n}})
		n++
	}
	custom()
	for rest := plain[8 : len(plain)-6]; len(rest) > 0; {
		size := int(rest[1]) + 2
		b = append(b, rest[:size]...)
		custom()
		custom()
		rest = rest[size:]
	}
	decodes(t, b, m, api.OK)
	againstModel(t, b)
	encodes(t, m)
	c, e := Encode(m)
	if e != api.OK || len(c) != len(b) || !bytes.HasPrefix(c, plain[:len(plain)-6]) || !bytes.HasSuffix(c, sec(0, 1, 'a'+n-1, n-1)) {
		t.Errorf("Encode(%s) = %s, %d", tell(m), brief(c), e)
	}
	encodes(t, api.Module{Customs: make([]api.Custom, 1000)})
	encodes(t, api.Module{Customs: []api.Custom{{Name: longer, Bytes: make([]byte, 30000)}, {Name: longer, Bytes: []byte{1}}, {Name: longer}}})
}

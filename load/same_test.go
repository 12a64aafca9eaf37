package load

import (
	"bytes"
	"fmt"
	"math"
	"reflect"
	"slices"
	"strings"
	"testing"

	"trammel/api"
	"trammel/mod"
)

// full is a module whose lists all hold something, those that a right module leaves empty too.
func full() api.Module {
	l := func() []api.Instr {
		return []api.Instr{{Op: api.BrTable, A: 1, B: 2, K: 3, L: []int{4, 5, 4}}, {Op: api.Const64, K: -7, L: []int{8}}, {Op: api.End}}
	}
	return api.Module{
		Types:   []api.FuncType{{Params: []int{0x7f, 0x7e}, Results: []int{0x7e}}, {Params: []int{0x7e}, Results: []int{0x7f, 0x7f}}},
		Imports: []api.Import{{Module: "m", Name: "f", Type: 1}, {Module: "m", Name: "t", Kind: 1, Limits: api.Limits{Min: 2, Capped: true, Max: 3}}, {Module: "M", Name: "g", Kind: 3, Type: 0x7f, Mutable: true}},
		Funcs:   []api.Func{{Type: 1, Locals: []int{0x7e, 0x7f}, Body: l()}, {Locals: []int{0x7e}, Body: l()[1:]}},
		Tables:  []api.Limits{{Min: 1, Capped: true, Max: 9}, {Min: 2}},
		Mems:    []api.Limits{{Min: 3}, {Min: 4, Capped: true, Max: 4}},
		Globals: []api.Global{{Type: 0x7f, Mutable: true, Init: l()}, {Type: 0x7e, Init: l()[2:]}},
		Exports: []api.Export{{Name: "f", Kind: 0, Index: 1}, {Name: "\xc3\xa9", Kind: 3, Index: 2}},
		Starts:  []int{1, 2},
		Elems:   []api.Elem{{Offset: l(), Funcs: []int{0, -1}}, {Mode: 2, Offset: l()[1:], Funcs: []int{3}}},
		Counts:  []int{2, 3},
		Datas:   []api.Data{{Offset: l(), Bytes: []byte{1, 2}}, {Mode: 1, Offset: l()[1:], Bytes: []byte{3}}},
		Customs: []api.Custom{{Name: "x", Bytes: []byte{5, 6}}, {Name: "y", Bytes: []byte{7}}},
	}
}

func same(t *testing.T, a, b api.Module) {
	t.Helper()
	if !Same(a, b) || !Same(b, a) || !Same(a, a) || !Same(b, b) {
		t.Errorf("%s and %s: %v, %v; themselves: %v, %v", tell(a), tell(b), Same(a, b), Same(b, a), Same(a, a), Same(b, b))
	}
}

func unlike(t *testing.T, what string, a, b api.Module) {
	t.Helper()
	if Same(a, b) || Same(b, a) {
		t.Errorf("%s: %s and %s: %v, %v", what, tell(a), tell(b), Same(a, b), Same(b, a))
	}
}

// copied has lists of its own, each with spare room.
func copied[T any](x T) T {
	var y T
	copyInto(reflect.ValueOf(&y).Elem(), reflect.ValueOf(x))
	return y
}

// places in a module: of each number, text and list a way to it, and its name.
func places(v reflect.Value, name string, do func(reflect.Value, string)) {
	switch v.Kind() {
	case reflect.Struct:
		for i := range v.NumField() {
			places(v.Field(i), name+"."+v.Type().Field(i).Name, do)
		}
		return
	case reflect.Slice:
		for i := range v.Len() {
			places(v.Index(i), fmt.Sprintf("%s[%d]", name, i), do)
		}
	}
	do(v, name)
}

// others are values that differ from one, by little and by much.
func others(v reflect.Value) []reflect.Value {
	var l []reflect.Value
	add := func(x any) { l = append(l, reflect.ValueOf(x).Convert(v.Type())) }
	switch v.Kind() {
	case reflect.Int, reflect.Int64:
		n := v.Int()
		for _, x := range []int64{n + 1, n - 1, n + 256, n + 1<<16, n + 1<<32, n + 1<<33, -n - 1, n ^ math.MinInt64, math.MinInt64, math.MaxInt64, n ^ 0x80} {
			add(x)
		}
	case reflect.Uint8:
		n := byte(v.Uint())
		for _, x := range []byte{n + 1, n - 1, n ^ 0x80, n ^ 0x10, ^n} {
			add(x)
		}
	case reflect.Bool:
		add(!v.Bool())
	case reflect.String:
		s := v.String()
		for _, x := range []string{"", s + "x", s + "\x00", s + s, "x" + s, s[:len(s)-1], s[1:], s[:len(s)-1] + "\xff", strings.ToUpper(s) + " ", "\x01" + s[1:]} {
			add(x)
		}
	case reflect.Slice:
		n := v.Len()
		zero := reflect.Zero(v.Type().Elem())
		l = append(l, v.Slice(0, 0), v.Slice(0, n-1), v.Slice(1, n), reflect.Append(v, zero), reflect.AppendSlice(v, v), reflect.Append(v, v.Index(n-1)), reflect.AppendSlice(reflect.Append(v.Slice3(0, 0, 0), zero), v), reflect.Zero(v.Type()))
		turned := reflect.MakeSlice(v.Type(), n, n)
		for i := range n {
			turned.Index(i).Set(v.Index(n - 1 - i))
		}
		l = append(l, turned)
	}
	return slices.DeleteFunc(l, func(x reflect.Value) bool { return alikeValues(x, v) })
}

// P11.2: two modules that are unlike in just one place, whichever it is, are not the same.
func TestUnlike(t *testing.T) {
	a := full()
	same(t, a, full())
	same(t, a, copied(a))
	for _, right := range []api.Module{full(), worldModule()} {
		a, b := copied(right), copied(right)
		met := 0
		places(reflect.ValueOf(&b).Elem(), "", func(v reflect.Value, name string) {
			if v.Kind() == reflect.Slice && v.Len() == 0 {
				return
			}
			kept := reflect.New(v.Type()).Elem()
			kept.Set(v)
			for _, x := range others(kept) {
				v.Set(x)
				unlike(t, name, a, b)
				met++
			}
			v.Set(kept)
			same(t, a, b)
		})
		if met < 900 {
			t.Error(met)
		}
	}
}

// P11.2: what stands in one list of the one and in another list of the other is not the same.
func TestMoved(t *testing.T) {
	two, end := []int{0x7f, 0x7f}, []api.Instr{{Op: api.End}}
	l := api.Limits{Min: 1}
	for i, c := range [][2]api.Module{
		{{Types: []api.FuncType{{Params: two}}}, {Types: []api.FuncType{{Results: two}}}},
		{{Types: []api.FuncType{{Params: two}, {}}}, {Types: []api.FuncType{{}, {Params: two}}}},
		{{Types: []api.FuncType{{Params: two[1:], Results: two}}}, {Types: []api.FuncType{{Params: two, Results: two[1:]}}}},
		{{Types: []api.FuncType{{}}}, {Funcs: []api.Func{{}}}},
		{{Tables: []api.Limits{l}}, {Mems: []api.Limits{l}}},
		{{Tables: []api.Limits{l}}, {Imports: []api.Import{{Kind: 1, Limits: l}}}},
		{{Tables: []api.Limits{{Min: 1, Capped: true}}}, {Tables: []api.Limits{{Min: 1}}}},
		{{Mems: []api.Limits{{Min: 1, Max: 1}}}, {Mems: []api.Limits{{Min: 1}}}},
		{{Mems: []api.Limits{{Min: 1, Capped: true, Max: 2}}}, {Mems: []api.Limits{{Min: 2, Capped: true, Max: 1}}}},
		{{Starts: []int{0}}, {Counts: []int{0}}}, {{Starts: []int{0}}, {}}, {{Counts: []int{0}}, {}}, {{Starts: []int{0, 0}}, {Starts: []int{0}}},
		{{Exports: []api.Export{{Kind: 1}}}, {Exports: []api.Export{{Index: 1}}}},
		{{Imports: []api.Import{{Module: "a", Name: "b"}}}, {Imports: []api.Import{{Module: "b", Name: "a"}}}},
		{{Imports: []api.Import{{Module: "ab"}}}, {Imports: []api.Import{{Module: "a", Name: "b"}}}},
		{{Imports: []api.Import{{Kind: 1}}}, {Imports: []api.Import{{Kind: 2}}}},
		{{Funcs: []api.Func{{Body: end}}}, {Globals: []api.Global{{Init: end}}}},
		{{Elems: []api.Elem{{Offset: end}}}, {Datas: []api.Data{{Offset: end}}}},
		{{Elems: []api.Elem{{Mode: 1}}}, {Elems: []api.Elem{{Mode: 2}}}},
		{{Elems: []api.Elem{{Funcs: []int{-1}}}}, {Elems: []api.Elem{{Funcs: []int{0}}}}},
		{{Elems: []api.Elem{{Funcs: []int{1}}, {}}}, {Elems: []api.Elem{{}, {Funcs: []int{1}}}}},
		{{Datas: []api.Data{{Bytes: []byte{1, 2}}, {}}}, {Datas: []api.Data{{Bytes: []byte{1}}, {Bytes: []byte{2}}}}},
		{{Datas: []api.Data{{Bytes: []byte("a")}}}, {Customs: []api.Custom{{Bytes: []byte("a")}}}},
		{{Customs: []api.Custom{{Name: "a"}}}, {Customs: []api.Custom{{Bytes: []byte("a")}}}},
		{{Customs: []api.Custom{{Name: "a"}, {Name: "b"}}}, {Customs: []api.Custom{{Name: "b"}, {Name: "a"}}}},
		{{Customs: []api.Custom{{}}}, {}},
		{{Funcs: []api.Func{{Body: []api.Instr{{Op: 1}, {Op: 11}}}}}, {Funcs: []api.Func{{Body: []api.Instr{{Op: 11}, {Op: 1}}}}}},
		{{Funcs: []api.Func{{Body: []api.Instr{{A: 1}}}}}, {Funcs: []api.Func{{Body: []api.Instr{{B: 1}}}}}},
		{{Funcs: []api.Func{{Body: []api.Instr{{A: 1}}}}}, {Funcs: []api.Func{{Body: []api.Instr{{K: 1}}}}}},
		{{Funcs: []api.Func{{Body: []api.Instr{{A: 1}}}}}, {Funcs: []api.Func{{Body: []api.Instr{{L: []int{1}}}}}}},
		{{Funcs: []api.Func{{Body: []api.Instr{{A: 1, B: 2}}}}}, {Funcs: []api.Func{{Body: []api.Instr{{A: 2, B: 1}}}}}},
		{{Funcs: []api.Func{{Locals: two}}}, {Funcs: []api.Func{{Locals: two[1:]}}}},
	} {
		unlike(t, fmt.Sprint(i), c[0], c[1])
		same(t, c[0], copied(c[0]))
		same(t, c[1], copied(c[1]))
	}
}

// P11.2: an empty list and one that is none say the same, wherever the list stands.
func TestEmptyLists(t *testing.T) {
	a, b := full(), full()
	empty := func(m *api.Module, of func(reflect.Type) reflect.Value) {
		places(reflect.ValueOf(m).Elem(), "", func(v reflect.Value, name string) {
			if v.Kind() == reflect.Slice && v.Type().Elem().Kind() != reflect.Struct {
				v.Set(of(v.Type()))
			}
		})
	}
	none := func(x reflect.Type) reflect.Value { return reflect.Zero(x) }
	room := func(x reflect.Type) reflect.Value { return reflect.MakeSlice(x, 3, 3).Slice(1, 1) }
	empty(&a, none)
	empty(&b, room)
	same(t, a, b)
	unlike(t, "emptied", a, full())
	var bare, roomy api.Module
	outer := reflect.ValueOf(&roomy).Elem()
	for i := range outer.NumField() {
		outer.Field(i).Set(room(outer.Field(i).Type()))
		same(t, bare, roomy)
	}
	c, d := full(), full()
	for _, l := range []*[]api.Instr{&c.Funcs[0].Body, &c.Globals[0].Init, &c.Elems[0].Offset, &c.Datas[0].Offset} {
		*l = nil
	}
	for _, l := range []*[]api.Instr{&d.Funcs[0].Body, &d.Globals[0].Init, &d.Elems[0].Offset, &d.Datas[0].Offset} {
		*l = []api.Instr{}
	}
	same(t, c, d)
	unlike(t, "without bodies", c, full())
}

// small numbers and lists, so that two of them are often the same.
func (c *chance) fill(v reflect.Value) {
	switch v.Kind() {
	case reflect.Int, reflect.Int64:
		v.SetInt([]int64{0, 0, 0, 0, 0, 0, 1, -1, math.MinInt64, math.MaxInt64, 1 << 32, 0x200}[c.below(12)])
	case reflect.Uint8:
		v.SetUint(uint64(c.below(2)))
	case reflect.Bool:
		v.SetBool(c.below(4) == 0)
	case reflect.String:
		v.SetString([]string{"", "", "", "a", "\xff"}[c.below(5)])
	case reflect.Slice:
		if n := c.below(4) - 1; n >= 0 {
			v.Set(reflect.MakeSlice(v.Type(), n/2, n))
		}
		for i := range v.Len() {
			c.fill(v.Index(i))
		}
	case reflect.Struct:
		for i := range v.NumField() {
			c.fill(v.Field(i))
		}
	}
}

// P11.2: modules of any numbers, formed or not: a call always answers, and as a walk through all
// that the two hold does.
func TestAnyModules(t *testing.T) {
	c := chance(112)
	met := map[bool]int{}
	var l []api.Module
	for range 700 {
		var m api.Module
		c.fill(reflect.ValueOf(&m).Elem().Field(c.below(12)))
		if c.below(4) == 0 {
			c.fill(reflect.ValueOf(&m).Elem())
		}
		same(t, m, copied(m))
		l = append(l, m)
	}
	for _, a := range l {
		for _, b := range l {
			want := alike(a, b)
			met[want]++
			if Same(a, b) != want {
				t.Fatalf("Same(%s, %s) = %v", tell(a), tell(b), !want)
			}
		}
	}
	if met[true] < 5000 || met[false] < 5000 {
		t.Error(met)
	}
}

// P11.2: long lists, and lists far beyond what a module may have.
func TestLongLists(t *testing.T) {
	grown := func(last int) api.Module {
		l := make([]int, 1<<18)
		l[len(l)-1] = last
		body := make([]api.Instr, 1<<16)
		body[len(body)-1].A = last
		return api.Module{Types: []api.FuncType{{Params: l}}, Funcs: []api.Func{{Locals: l, Body: body}}, Datas: []api.Data{{Bytes: make([]byte, 1<<20)}}, Customs: make([]api.Custom, 1<<16)}
	}
	same(t, grown(1), grown(1))
	unlike(t, "last", grown(1), grown(2))
	a, b := grown(1), grown(1)
	a.Funcs[0].Body = append(a.Funcs[0].Body, api.Instr{})
	unlike(t, "one more", a, b)
	b = grown(1)
	b.Datas[0].Bytes[1<<20-1] = 1
	unlike(t, "last byte", grown(1), b)
}

// P11.2: the world and each of its spoils that is decoded are not the same, while its bytes in
// other forms are.
func TestSameOfBytes(t *testing.T) {
	right, _, _, _ := Load(whole(world()))
	for _, s := range spoils() {
		parts := world()
		s.do(parts)
		if m, e := mod.Decode(whole(parts)); e == api.OK {
			unlike(t, fmt.Sprint(s), right, m)
		}
	}
	c := chance(113)
	for range 100 {
		b := spell(right, &c)
		if m, _, v, e := Load(b); v != api.Accepted || e != api.OK || !Same(m, right) || bytes.Equal(b, whole(world())) {
			t.Errorf("Load(%s) = %s, %d, %d", brief(b), tell(m), v, e)
		}
	}
}

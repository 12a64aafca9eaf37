package ctx

import (
	"reflect"
	"testing"

	"trammel/api"
)

// spare is how much room each list of a copy has behind it.
const spare = 3

// roomy is a copy whose lists have spare room that is not empty. A list of nothing has room, too.
func roomy[T any](x T) T {
	var y T
	copyInto(reflect.ValueOf(&y).Elem(), reflect.ValueOf(x))
	return y
}

func copyInto(to, from reflect.Value) {
	switch from.Kind() {
	case reflect.Slice:
		whole := reflect.MakeSlice(from.Type(), from.Len()+spare, from.Len()+spare)
		for i := range from.Len() {
			copyInto(whole.Index(i), from.Index(i))
		}
		for i := range spare {
			fill(whole.Index(from.Len() + i))
		}
		to.Set(whole.Slice(0, from.Len()))
	case reflect.Struct:
		for i := range from.NumField() {
			copyInto(to.Field(i), from.Field(i))
		}
	default:
		to.Set(from)
	}
}

// fill with what no answer holds.
func fill(v reflect.Value) {
	switch v.Kind() {
	case reflect.Int, reflect.Int64:
		v.SetInt(-7777)
	case reflect.Uint8:
		v.SetUint(0xa7)
	case reflect.Bool:
		v.SetBool(!v.Bool())
	case reflect.String:
		v.SetString("spoilt")
	case reflect.Struct:
		for i := range v.NumField() {
			fill(v.Field(i))
		}
	}
}

// spoil writes over all that a thing's lists hold, their spare room too.
func spoil(x any) { whole(reflect.ValueOf(x), fill) }

// whole does something to all that stands in a thing's lists, up to their ends and behind them.
func whole(v reflect.Value, do func(reflect.Value)) {
	switch v.Kind() {
	case reflect.Slice:
		all := v.Slice(0, v.Cap())
		for i := range all.Len() {
			whole(all.Index(i), do)
			do(all.Index(i))
		}
	case reflect.Struct:
		for i := range v.NumField() {
			whole(v.Field(i), do)
		}
	}
}

// sameWhole: are two things the same, what stands in their spare room included?
func sameWhole(x, y any) bool {
	var a, b []any
	whole(reflect.ValueOf(x), func(v reflect.Value) { a = append(a, v.Interface()) })
	whole(reflect.ValueOf(y), func(v reflect.Value) { b = append(b, v.Interface()) })
	return reflect.DeepEqual(x, y) && reflect.DeepEqual(a, b)
}

// spans are where a thing's lists lie, each with all of its room.
func spans(v reflect.Value) [][2]uintptr {
	var l [][2]uintptr
	switch v.Kind() {
	case reflect.Slice:
		if size := uintptr(v.Cap()) * v.Type().Elem().Size(); size > 0 {
			l = append(l, [2]uintptr{v.Pointer(), v.Pointer() + size})
		}
		for i := range v.Len() {
			l = append(l, spans(v.Index(i))...)
		}
	case reflect.Struct:
		for i := range v.NumField() {
			l = append(l, spans(v.Field(i))...)
		}
	}
	return l
}

// apart: an answer's lists share no memory with one another, nor with what was handed in.
func apart(t *testing.T, answer, given any) {
	t.Helper()
	lists := spans(reflect.ValueOf(answer))
	for i, a := range lists {
		for _, b := range append(lists[i+1:len(lists):len(lists)], spans(reflect.ValueOf(given))...) {
			if a[0] < b[1] && b[0] < a[1] {
				t.Errorf("of %+v, %+v shares memory", given, answer)
			}
		}
	}
}

// P9.1: Of leaves what is handed in as it is, its spare room too, and answers new memory.
func TestMemory(t *testing.T) {
	own := full()
	own.Imports = own.Imports[:4]
	own.Globals = own.Globals[:3]
	own.Exports = own.Exports[:3]
	own.Tables, own.Mems = []api.Limits{{Min: 3}}, []api.Limits{{Min: 4}}
	bare := api.Module{Types: shapes(), Funcs: []api.Func{{Type: 3}}, Globals: []api.Global{{Type: api.I32, Init: one(api.Const32, 0)}}}
	hosts := api.Module{Types: shapes(), Imports: full().Imports}
	for _, right := range []api.Module{full(), own, bare, hosts, {}} {
		isNew(t, right)
	}
	for _, w := range wrongs() {
		m := full()
		w.do(&m)
		m = roomy(m)
		kept := roomy(m)
		if _, e := Of(m); e != w.e || !sameWhole(m, kept) {
			t.Errorf("%s: %d, or changed", w.name, e)
		}
	}
}

func isNew(t *testing.T, right api.Module) {
	t.Helper()
	m, kept := roomy(right), roomy(right)
	c, e := Of(m)
	if e != api.OK || !sameWhole(m, kept) {
		t.Fatalf("Of changed what it was given, or %d", e)
	}
	want, _ := modelOf(kept)
	apart(t, c, m)
	spoil(m)
	if !sameCtx(c, want) {
		t.Errorf("%+v hangs on what was handed in", c)
	}
	spoil(c)
	m = roomy(kept)
	if again, e := Of(m); e != api.OK || !sameCtx(again, want) || !sameWhole(m, kept) {
		t.Errorf("Of(%+v) = %+v, %d", m, again, e)
	}
}

// P9.2: a type that is answered is new memory, and Constant leaves what it is given as it is.
func TestTypesAreNew(t *testing.T) {
	c := roomy(api.Ctx{Types: shapes(), Funcs: []int{3, 0, 3}})
	kept := roomy(c)
	for _, ask := range []func() (api.FuncType, bool){
		func() (api.FuncType, bool) { return Type(c, 0) }, func() (api.FuncType, bool) { return Type(c, 1) },
		func() (api.FuncType, bool) { return Block(c, 3) }, func() (api.FuncType, bool) { return Block(c, 0) },
		func() (api.FuncType, bool) { return Block(c, -1) }, func() (api.FuncType, bool) { return Block(c, -2) }, func() (api.FuncType, bool) { return Block(c, api.Empty) },
	} {
		f, ok := ask()
		want := roomy(f)
		if !ok || !sameWhole(c, kept) {
			t.Errorf("%+v, %v; or changed", f, ok)
		}
		apart(t, f, c)
		spoil(f)
		if g, ok := ask(); !ok || !sameType(g, want) || !sameWhole(c, kept) {
			t.Errorf("%+v; want %+v", g, want)
		}
	}
	for _, l := range [][]api.Instr{one(api.Const32, 7), get(0), nil, {{}}} {
		given := roomy(l)
		kept := roomy(l)
		Constant(c, given, api.I32)
		if !sameWhole(given, kept) || !sameWhole(c, roomy(api.Ctx{Types: shapes(), Funcs: []int{3, 0, 3}})) {
			t.Errorf("Constant changed %+v", l)
		}
	}
}

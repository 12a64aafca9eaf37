package load

import (
	"bytes"
	"reflect"
	"testing"

	"trammel/api"
)

// spare is how much room each list of a copy has behind it.
const spare = 3

func copyInto(to, from reflect.Value) {
	switch from.Kind() {
	case reflect.Slice:
		all := reflect.MakeSlice(from.Type(), from.Len()+spare, from.Len()+spare)
		for i := range from.Len() {
			copyInto(all.Index(i), from.Index(i))
		}
		for i := range spare {
			overwrite(all.Index(from.Len() + i))
		}
		to.Set(all.Slice(0, from.Len()))
	case reflect.Struct:
		for i := range from.NumField() {
			copyInto(to.Field(i), from.Field(i))
		}
	default:
		to.Set(from)
	}
}

// overwrite with what no answer holds.
func overwrite(v reflect.Value) {
	switch v.Kind() {
	case reflect.Int, reflect.Int64:
		v.SetInt(-7777)
	case reflect.Uint8:
		v.SetUint(0xa7)
	case reflect.Bool:
		v.SetBool(!v.Bool())
	case reflect.String:
		v.SetString("spoilt")
	case reflect.Struct:
		for i := range v.NumField() {
			overwrite(v.Field(i))
		}
	}
}

// room does something to all that stands in a thing's lists, and behind them.
func room(v reflect.Value, do func(reflect.Value)) {
	switch v.Kind() {
	case reflect.Slice:
		all := v.Slice(0, v.Cap())
		for i := range all.Len() {
			room(all.Index(i), do)
			do(all.Index(i))
		}
	case reflect.Struct:
		for i := range v.NumField() {
			room(v.Field(i), do)
		}
	}
}

// untouched: are two things the same, what stands in their spare room included?
func untouched(x, y any) bool {
	var a, b []any
	room(reflect.ValueOf(x), func(v reflect.Value) { a = append(a, v.Interface()) })
	room(reflect.ValueOf(y), func(v reflect.Value) { b = append(b, v.Interface()) })
	return reflect.DeepEqual(x, y) && reflect.DeepEqual(a, b)
}

// spans are where a thing's lists lie, each with all of its room.
func spans(v reflect.Value) [][2]uintptr {
	var l [][2]uintptr
	switch v.Kind() {
	case reflect.Slice:
		if size := uintptr(v.Cap()) * v.Type().Elem().Size(); size > 0 {
			l = append(l, [2]uintptr{v.Pointer(), v.Pointer() + size})
		}
		for i := range v.Len() {
			l = append(l, spans(v.Index(i))...)
		}
	case reflect.Struct:
		for i := range v.NumField() {
			l = append(l, spans(v.Field(i))...)
		}
	}
	return l
}

// answer is all of Load's lists.
type answer struct {
	m api.Module
	c api.Ctx
}

// apart: an answer's lists share no memory with one another, nor with the bytes.
func apart(t *testing.T, x answer, b []byte) {
	t.Helper()
	lists := append(spans(reflect.ValueOf(x)), spans(reflect.ValueOf(b))...)
	for i, p := range lists {
		for _, q := range lists[i+1:] {
			if p[0] < q[1] && q[0] < p[1] {
				t.Fatalf("of %s, %s shares memory", brief(b), tell(x))
			}
		}
	}
}

// P11.1: Load leaves the bytes and what stands behind them as they are, and answers new memory,
// which it keeps no more than the bytes.
func TestLoadMemory(t *testing.T) {
	c := chance(114)
	inputs := [][]byte{whole(world()), begin(), nil}
	for range 50 {
		inputs = append(inputs, spell(c.module(), &c))
	}
	for _, b := range inputs {
		given, kept := copied(b), copied(b)
		m, names, _, e := Load(given)
		if !untouched(given, kept) {
			t.Errorf("Load changed %s", brief(kept))
		}
		apart(t, answer{m, names}, given)
		want, wantNames, _, f := Load(bytes.Clone(b))
		room(reflect.ValueOf(given), overwrite)
		if e != f || !alike(m, want) || !alike(names, wantNames) {
			t.Errorf("Load(%s) hangs on what was handed in", brief(b))
		}
		room(reflect.ValueOf(m), overwrite)
		if !alike(names, wantNames) {
			t.Errorf("of %s the context hangs on the module", brief(b))
		}
		room(reflect.ValueOf(names), overwrite)
		if n, d, _, e := Load(kept); e != f || !alike(n, want) || !alike(d, wantNames) {
			t.Errorf("Load(%s) kept what it answered", brief(b))
		}
	}
	for _, s := range spoils() {
		parts := world()
		s.do(parts)
		given, kept := copied(whole(parts)), copied(whole(parts))
		if _, _, v, e := Load(given); v != s.v || e != s.e || !untouched(given, kept) {
			t.Errorf("Load changed %s, or %d, %d", brief(kept), v, e)
		}
	}
}

// P11.2: Same leaves both modules as they are, their spare room too.
func TestSameMemory(t *testing.T) {
	for _, x := range []api.Module{full(), worldModule(), {}} {
		for _, y := range []api.Module{full(), worldModule(), {}} {
			a, b := copied(x), copied(y)
			if Same(a, b) != alike(x, y) || !untouched(a, copied(x)) || !untouched(b, copied(y)) {
				t.Errorf("Same(%s, %s) = %v, or changed", tell(x), tell(y), Same(a, b))
			}
		}
	}
}

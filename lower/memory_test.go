package lower_test

import (
	"reflect"
	"testing"

	"trammel/api"
	"trammel/lower"
)

// spare is how much room each list of a copy has behind it.
const spare = 4

// walk over all that stands in a thing, itself first: of its lists up to the ends of their room.
func walk(v reflect.Value, do func(reflect.Value)) {
	do(v)
	switch v.Kind() {
	case reflect.Struct:
		for i := range v.NumField() {
			walk(v.Field(i), do)
		}
	case reflect.Slice:
		for all := v.Slice(0, v.Cap()); all.Len() > 0; all = all.Slice(1, all.Len()) {
			walk(all.Index(0), do)
		}
	}
}

// roomy is a copy whose lists have spare room that is not empty.
func roomy[T any](x T) T {
	y := x
	walk(reflect.ValueOf(&y).Elem(), func(v reflect.Value) {
		if v.Kind() == reflect.Slice && v.CanSet() {
			more := reflect.MakeSlice(v.Type(), v.Len()+spare, v.Len()+spare)
			reflect.Copy(more, v)
			for i := range spare {
				walk(more.Index(v.Len()+i), spoil)
			}
			v.Set(more.Slice(0, v.Len()))
		}
	})
	return y
}

// spoil a number with one that no answer holds.
func spoil(v reflect.Value) {
	switch v.Kind() {
	case reflect.Int, reflect.Int64:
		v.SetInt(-7777)
	case reflect.Bool:
		v.SetBool(!v.Bool())
	}
}

// heldBy a thing: all numbers and texts that stand in it and in its room, and how long its lists are.
func heldBy(x any) []any {
	var l []any
	walk(reflect.ValueOf(x), func(v reflect.Value) {
		switch v.Kind() {
		case reflect.Struct:
		case reflect.Slice:
			l = append(l, v.Len())
		default:
			l = append(l, v.Interface())
		}
	})
	return l
}

// apart: an answer's lists share no memory with one another, nor with what was handed in.
func apart(t *testing.T, answer any, given ...any) {
	t.Helper()
	var spans [][2]uintptr
	add := func(v reflect.Value) {
		if v.Kind() == reflect.Slice && v.Cap() > 0 {
			spans = append(spans, [2]uintptr{v.Pointer(), v.Pointer() + uintptr(v.Cap())*v.Type().Elem().Size()})
		}
	}
	walk(reflect.ValueOf(answer), add)
	own := len(spans)
	for _, x := range given {
		walk(reflect.ValueOf(x), add)
	}
	for i, a := range spans[:own] {
		for _, b := range spans[i+1:] {
			if a[0] < b[1] && b[0] < a[1] {
				t.Fatalf("%+v shares memory", answer)
			}
		}
	}
}

// everything is functions in which there is something of each kind.
func everything() []api.Func {
	return []api.Func{
		funcOf("iI:Ii", "iI", "local.get 0; if; br 0; else; i32 1; br_table 0 0; end; loop; i32 2; br_if 0; end; i32 2; 28 2 4; i64 1; i32 0; if iI:Ii; drop; drop; i64 3; i32 4; else; drop; drop; i64 5; i32 6; br 1; end; br 0; loop; br 0; end; end"),
		funcOf("iI:iI", "", "local.get 0; local.get 1; i32; call_indirect iI:iI 0; i32; br_table 0 0 0 0; end"),
		funcOf(":", "", "i64 5; drop; i32 1; br_if 0; block; i32 1; br_table 0 0 0; end; block; i32 1; br_table 0 0 0; end; i32 1; br_if 0; i32 1; if; else; end; i32 1; if; else; end; end"),
		funcOf(":", "", "end"),
	}
}

// P12.1: Lower leaves what is handed in as it is, its spare room too, keeps none of it, and answers
// new memory.
func TestLowerMemory(t *testing.T) {
	rnd := &chance{122}
	funcs := everything()
	for range 50 {
		funcs = append(funcs, rnd.right())
	}
	for _, f := range funcs {
		c, own := roomy(world()), roomy(f)
		keptC, keptOwn := heldBy(c), heldBy(own)
		x, e := lower.Lower(c, own)
		if want := modelLower(world(), f); e != api.OK || !sameCode(x, want) {
			t.Fatalf("%+v: %d", f, e)
		}
		if !reflect.DeepEqual(heldBy(c), keptC) || !reflect.DeepEqual(heldBy(own), keptOwn) {
			t.Errorf("%+v is changed", f)
		}
		apart(t, x, c, own)
		y, _ := lower.Lower(c, own)
		apart(t, []api.Code{x, y}, c, own)
		walk(reflect.ValueOf(&x).Elem(), spoil)
		if again, e := lower.Lower(c, own); e != api.OK || !sameCode(again, y) || !reflect.DeepEqual(heldBy(own), keptOwn) {
			t.Errorf("%+v: what was answered is kept", f)
		}
		walk(reflect.ValueOf(&c).Elem(), spoil)
		walk(reflect.ValueOf(&own).Elem(), spoil)
		if !sameCode(y, modelLower(world(), f)) {
			t.Errorf("%+v: what was handed in is kept", f)
		}
	}
}

// P12.1: All does likewise, beside an error too.
func TestAllMemory(t *testing.T) {
	m := worldModule()
	for _, more := range [][]api.Func{nil, {funcOf(":", "", "drop; end")}} {
		m.Funcs = append(everything(), more...)
		c, own := roomy(world()), roomy(m)
		keptC, keptOwn := heldBy(c), heldBy(own)
		l, e := lower.All(c, own)
		if (e == api.OK) != (more == nil) || !reflect.DeepEqual(heldBy(c), keptC) || !reflect.DeepEqual(heldBy(own), keptOwn) {
			t.Errorf("something is changed: %d", e)
		}
		apart(t, l, c, own)
	}
}

// P12.2: Effect leaves what is handed in as it is.
func TestEffectMemory(t *testing.T) {
	for _, f := range everything() {
		for _, x := range f.Body {
			c, own := roomy(world()), roomy(x)
			keptC, keptOwn := heldBy(c), heldBy(own)
			lower.Effect(c, own)
			if !reflect.DeepEqual(heldBy(c), keptC) || !reflect.DeepEqual(heldBy(own), keptOwn) {
				t.Errorf("%+v is changed", x)
			}
		}
	}
}

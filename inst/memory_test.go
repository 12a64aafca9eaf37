package inst_test

import (
	"math"
	"reflect"
	"testing"

	"trammel/api"
	"trammel/inst"
)

// spare is how much room each list of a copy has behind it.
const spare = 4

// walk over all lists that stand in a thing, and in what stands in their room.
func walk(v reflect.Value, do func(reflect.Value)) {
	switch v.Kind() {
	case reflect.Struct:
		for i := range v.NumField() {
			walk(v.Field(i), do)
		}
	case reflect.Slice:
		do(v)
		if k := v.Type().Elem().Kind(); k == reflect.Struct || k == reflect.Slice {
			for i := range v.Slice(0, v.Cap()).Len() {
				walk(v.Slice(0, v.Cap()).Index(i), do)
			}
		}
	}
}

// roomy is a copy whose lists have spare room that is not empty.
func roomy[T any](x T) T {
	y := x
	walk(reflect.ValueOf(&y).Elem(), func(v reflect.Value) {
		more := reflect.MakeSlice(v.Type(), v.Len()+spare, v.Len()+spare)
		reflect.Copy(more, v)
		for i := range spare {
			spoil(more.Index(v.Len() + i))
		}
		v.Set(more.Slice(0, v.Len()))
	})
	return y
}

// spoil a number or what holds some.
func spoil(v reflect.Value) {
	switch v.Kind() {
	case reflect.Int, reflect.Int64:
		v.SetInt(-7777)
	case reflect.Uint8, reflect.Uint64:
		v.SetUint(0xa7)
	case reflect.Bool:
		v.SetBool(!v.Bool())
	case reflect.Struct:
		for i := range v.NumField() {
			spoil(v.Field(i))
		}
	}
}

// spoilAll that stands in a thing's lists, their room included.
func spoilAll(x any) {
	walk(reflect.ValueOf(x).Elem(), func(v reflect.Value) {
		for i := range v.Slice(0, v.Cap()).Len() {
			if e := v.Slice(0, v.Cap()).Index(i); e.Kind() != reflect.Slice && e.Kind() != reflect.Struct {
				spoil(e)
			}
		}
	})
}

// inside a thing: each list up to the end of its room, in a copy.
func inside(x any) []any {
	var l []any
	walk(reflect.ValueOf(x), func(v reflect.Value) {
		all := reflect.MakeSlice(v.Type(), v.Cap(), v.Cap())
		reflect.Copy(all, v.Slice(0, v.Cap()))
		l = append(l, v.Len(), all.Interface())
	})
	return l
}

// apart: an answer's lists share no memory with one another, nor with what was handed in.
func apart(t *testing.T, answer any, given ...any) {
	t.Helper()
	var spans [][2]uintptr
	add := func(v reflect.Value) {
		if v.Cap() > 0 {
			spans = append(spans, [2]uintptr{v.Pointer(), v.Pointer() + uintptr(v.Cap())*v.Type().Elem().Size()})
		}
	}
	walk(reflect.ValueOf(answer), add)
	own := len(spans)
	for _, x := range given {
		walk(reflect.ValueOf(x), add)
	}
	for i, a := range spans[:own] {
		for _, b := range spans[i+1:] {
			if a[0] < b[1] && b[0] < a[1] {
				t.Fatalf("%d shares memory", i)
			}
		}
	}
}

// P13.1: Setup leaves what is handed in as it is, its spare room too, beside a trap and an error
// likewise; keeps none of it; and answers new memory.
func TestSetupMemoryApart(t *testing.T) {
	for _, change := range []func(*api.Module, *[]api.Given){
		func(*api.Module, *[]api.Given) {},
		func(m *api.Module, _ *[]api.Given) { m.Elems[2].Funcs = make([]int, 9) },
		func(m *api.Module, _ *[]api.Given) { m.Datas[1].Bytes = make([]byte, 1<<18) },
		func(m *api.Module, _ *[]api.Given) { m.Starts[0] = 9 },
		func(_ *api.Module, l *[]api.Given) { *l = (*l)[:3] },
		func(_ *api.Module, l *[]api.Given) { (*l)[0].Value = math.MaxUint64 },
	} {
		plain, gives := full()
		change(&plain, &gives)
		m, l := roomy(plain), roomy(gives)
		keptM, keptL := inside(m), inside(l)
		s, trap, e := inst.Setup(m, l)
		want, wantTrap, wantE := modelSetup(plain, gives)
		if !same(s, want) || trap != wantTrap || e != wantE || !reflect.DeepEqual(inside(m), keptM) || !reflect.DeepEqual(inside(l), keptL) {
			t.Fatalf("something is changed: %d, %d", trap, e)
		}
		again, _, _ := inst.Setup(m, l)
		apart(t, []api.Store{s, again}, m, l)
		spoilAll(&m)
		spoilAll(&l)
		if !same(s, want) {
			t.Error("what was handed in is kept")
		}
		spoilAll(&s)
		if !same(again, want) {
			t.Error("what was answered is kept")
		}
	}
}

// P13.2, P13.3: Lay, Put and Grow likewise, where they say no, too.
func TestStoreMemoryApart(t *testing.T) {
	for _, n := range []uint64{0, 1, 2, 3, 99, math.MaxUint64} {
		for _, ok := range []bool{false, true} {
			s, f, b := roomy(some()), roomy([]int{1, 2, 3}), roomy([]byte{1, 2, 3})
			keptS, keptF, keptB := inside(s), inside(f), inside(b)
			laid, isLaid := inst.Lay(s, f, 1, 0, n)
			put, isPut := inst.Put(s, b, 1, 0, n)
			grown, were := inst.Grow(s, n, ok)
			if !reflect.DeepEqual(inside(s), keptS) || !reflect.DeepEqual(inside(f), keptF) || !reflect.DeepEqual(inside(b), keptB) {
				t.Errorf("something is changed by %d", n)
			}
			if isLaid != (n < 4) || isPut != (n < 4) || (were == none) != (n > 2 || !ok) {
				t.Error(n, isLaid, isPut, were)
			}
			apart(t, []api.Store{laid, put, grown}, s, f, b)
			spoilAll(&s)
			spoilAll(&f)
			spoilAll(&b)
			want, _ := modelGrow(some(), n, ok)
			if !same(grown, want) {
				t.Errorf("Grow by %d, %v keeps what was handed in", n, ok)
			}
			want = some()
			if isLaid {
				want.Table, _ = modelLay(want.Table, []int{1, 2, 3}, 1, 0, n)
				if !same(laid, want) {
					t.Errorf("Lay of %d keeps what was handed in", n)
				}
				want = some()
				want.Memory, _ = modelLay(want.Memory, []byte{1, 2, 3}, 1, 0, n)
				if !same(put, want) {
					t.Errorf("Put of %d keeps what was handed in", n)
				}
			}
		}
	}
}

// P13.2, P13.3: room behind a store's own lists counts for nothing: it is neither laid over nor
// grown into.
func TestRoomIsNoPlace(t *testing.T) {
	s := roomy(some())
	if _, ok := inst.Lay(s, []int{1}, 5, 0, 1); ok {
		t.Error("beyond the table")
	}
	if _, ok := inst.Put(s, []byte{1}, 6, 0, 1); ok {
		t.Error("beyond the memory")
	}
	if _, ok := inst.Lay(s, roomy([]int{1, 2}), 0, 1, 2); ok {
		t.Error("beyond the functions")
	}
	if _, ok := inst.Put(s, roomy([]byte{1, 2}), 0, 0, 3); ok {
		t.Error("beyond the bytes")
	}
	s.Memory = append(make([]byte, 0, 3*65536), make([]byte, 65536)...)
	for i := range s.Memory[:3*65536] {
		s.Memory[:3*65536][i] = 5
	}
	got, n := inst.Grow(s, 1, true)
	if n != 1 || len(got.Memory) != 2*65536 {
		t.Fatal(n, len(got.Memory))
	}
	for i, x := range got.Memory {
		if (x == 5) != (i < 65536) || x != 0 && x != 5 {
			t.Fatal(i, x)
		}
	}
	for i, x := range s.Memory[:3*65536] {
		if x != 5 {
			t.Fatal(i, x)
		}
	}
}

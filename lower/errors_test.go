package lower_test

import (
	"math"
	"reflect"
	"slices"
	"testing"

	"trammel/api"
	"trammel/lower"
	"trammel/valid"
)

// refused is a body of the world, with its last end, and its error.
type refused struct {
	own, text string
	e         api.Errno
}

func refusals() []refused {
	return []refused{
		{":", "", api.ErrForm}, {":", "nop", api.ErrForm}, {":", "end; end", api.ErrForm}, {":", "else; end", api.ErrForm}, {":", "block; end", api.ErrForm}, {":", "block; else; end; end", api.ErrForm}, {":", "i32; if; else; else; end; end", api.ErrForm},
		{":", "br -1; end", api.ErrForm}, {":", "call -1; end", api.ErrForm}, {":", "local.get -1; end", api.ErrForm}, {":", "block -3; end; end", api.ErrForm}, {":", "43; end", api.ErrForm}, {":", "jump; end", api.ErrForm}, {":", "jumpnot; end", api.ErrForm}, {":", "nop 1; end", api.ErrForm}, {":", "br 4294967296; end", api.ErrForm}, {":", "-1; end", api.ErrForm},
		{":", "br 1; end", api.ErrIndex}, {":", "i32; br_if 1; end", api.ErrIndex}, {":", "i32; br_table 1 0; end", api.ErrIndex}, {":", "i32; br_table 0 1; end", api.ErrIndex}, {":", "call 5; end", api.ErrIndex}, {":", "call_indirect 99 0; end", api.ErrIndex}, {":", "i32; call_indirect 0 1; end", api.ErrIndex},
		{"i:", "local.get 1; end", api.ErrIndex}, {":", "local.set 0; end", api.ErrIndex}, {":", "global.get 4; end", api.ErrIndex}, {":", "global.set 4; end", api.ErrIndex}, {":", "block 99; end; end", api.ErrIndex}, {":", "memory.init 3; end", api.ErrIndex}, {":", "data.drop 3; end", api.ErrIndex}, {":", "table.init 2 0; end", api.ErrIndex}, {":", "table.init 0 1; end", api.ErrIndex}, {":", "elem.drop 2; end", api.ErrIndex}, {":", "table.copy 0 1; end", api.ErrIndex},
		{":", "global.set 0; end", api.ErrArg}, {":", "i32; 28 3 0; drop; end", api.ErrArg}, {":", "2c 1 0; end", api.ErrArg}, {":", "37 4 0; end", api.ErrArg},
		{":i", "end", api.ErrType}, {":", "i32; end", api.ErrType}, {":i", "i64; end", api.ErrType}, {":", "drop; end", api.ErrType}, {":", "block; i32; end; end", api.ErrType}, {":i", "i32; if :i; i32; end; end", api.ErrType}, {":", "i32; block; drop; end; end", api.ErrType}, {":", "i64; br_if 0; end", api.ErrType}, {":i", "br 0; end", api.ErrType}, {":i", "return; end", api.ErrType}, {":", "i64; if; end; end", api.ErrType}, {":", "i32; i64; i32; select; drop; end", api.ErrType},
		{":", "unreachable; call 5; end", api.ErrIndex}, {":", "unreachable; global.set 0; end", api.ErrArg}, {":", "unreachable; i64; eqz; drop; end", api.ErrType}, {":", "block; br 0; br 2; end; end", api.ErrIndex},
		{":", "drop; call 5; end", api.ErrType}, {":", "call 5; drop; end", api.ErrIndex}, {":", "global.set 0; call 5; end", api.ErrArg}, {":", "call 5; global.set 0; end", api.ErrIndex}, {":", "call 5; else; end", api.ErrForm},
	}
}

// P12.1: a body that isn't right has valid.Body's error, and nothing beside it.
func TestErrors(t *testing.T) {
	c := world()
	for _, x := range refusals() {
		f := funcOf(x.own, "", x.text)
		got, e := lower.Lower(c, f)
		if e != x.e || !reflect.DeepEqual(got, api.Code{}) {
			t.Errorf("%s, %s: %+v, %d, want %d", x.own, x.text, got, e, x.e)
		}
		alike(t, c, f)
	}
	for _, n := range []int{-1, -2, api.Empty, len(c.Types), len(c.Types) + 1, math.MaxInt, math.MinInt} {
		for _, text := range []string{"end", "", "unreachable; end", "drop; end"} {
			if got, e := lower.Lower(c, api.Func{Type: n, Body: bodyOf(text)}); e != api.ErrForm || !reflect.DeepEqual(got, api.Code{}) {
				t.Errorf("type %d, %s: %+v, %d", n, text, got, e)
			}
		}
	}
	if _, e := lower.Lower(contextOf(api.Module{}), funcOf(":", "", "end")); e != api.ErrForm {
		t.Errorf("no types: %d", e)
	}
}

// P12.1: what there is none of in a module can't be named.
func TestNothingThere(t *testing.T) {
	m := api.Module{Types: []api.FuncType{{}}}
	c := contextOf(m)
	for _, text := range []string{"call 0", "i32; call_indirect 0 0", "global.get 0", "memory.size", "i32; 28 0 0; drop", "memory.copy", "memory.init 0", "data.drop 0", "table.init 0 0", "table.copy", "elem.drop 0"} {
		f := api.Func{Body: bodyOf(text + "; end")}
		if _, e := lower.Lower(c, f); e != api.ErrIndex {
			t.Errorf("%s: %d", text, e)
		}
	}
	m.Datas, m.Mems = make([]api.Data, 1), []api.Limits{{Min: 1}}
	m.Datas[0].Mode = api.Passive
	for _, text := range []string{"memory.init 0", "data.drop 0"} {
		f := api.Func{Body: bodyOf("i32; i32; i32; " + text + "; end")}
		if _, e := lower.Lower(contextOf(m), f); e != api.ErrIndex {
			t.Errorf("%s, segments that aren't counted: %d", text, e)
		}
	}
}

// P12.1: instructions with numbers of all kinds: a call answers, and as valid.Body does.
func TestAnyNumbers(t *testing.T) {
	c := world()
	for _, op := range allCodes() {
		for _, n := range names() {
			for _, x := range []api.Instr{{Op: op, A: n}, {Op: op, B: n}, {Op: op, A: n, B: n, K: int64(n), L: []int{n, 0}}} {
				f := api.Func{Type: sigNumber("iI:i"), Body: []api.Instr{x, {Op: api.End}}}
				got, e := lower.Lower(c, f)
				if want := valid.Body(c, f); e != want || e != api.OK && !reflect.DeepEqual(got, api.Code{}) {
					t.Fatalf("%+v: %+v, %d, want %d", x, got, e, want)
				}
			}
		}
	}
}

// P12.1: All lowers each of a module's own functions, in order; of none there is nothing.
func TestAll(t *testing.T) {
	m := worldModule()
	m.Funcs = nil
	c := world()
	if l, e := lower.All(c, m); e != api.OK || len(l) != 0 {
		t.Errorf("no functions: %+v, %d", l, e)
	}
	rnd := &chance{121}
	for range 20 {
		m.Funcs = append(m.Funcs, rnd.right())
		l, e := lower.All(c, m)
		if e != api.OK || len(l) != len(m.Funcs) {
			t.Fatalf("%d of %d, %d", len(l), len(m.Funcs), e)
		}
		for i, f := range m.Funcs {
			if !sameCode(l[i], modelLower(c, f)) {
				t.Fatalf("%+v: %+v", f, l[i])
			}
		}
	}
	m.Funcs = []api.Func{funcOf(":", "", "end"), funcOf(":i", "I", "i32 1; end"), funcOf(":", "", "end")}
	if l, e := lower.All(c, m); e != api.OK || len(l) != 3 || flatsText(l[0].Flat) != "end" || flatsText(l[1].Flat) != "i32 k1; end" || flatsText(l[2].Flat) != "end" {
		t.Errorf("%+v, %d", l, e)
	}
}

// P12.1: of several bodies that aren't right the first one's error is told, and nothing of those
// ahead of it.
func TestAllErrors(t *testing.T) {
	c, m := world(), worldModule()
	fine := funcOf(":", "", "loop; br 0; end; end")
	list := slices.DeleteFunc(refusals(), func(x refused) bool { return len(x.text) > 25 })
	for _, x := range list {
		bad := funcOf(x.own, "", x.text)
		for _, y := range list {
			worse := funcOf(y.own, "", y.text)
			for _, funcs := range [][]api.Func{{bad}, {bad, worse}, {fine, bad, worse, fine}, {fine, fine, bad, fine}} {
				m.Funcs = funcs
				if l, e := lower.All(c, m); e != x.e || len(l) != 0 {
					t.Fatalf("%s and %s: %+v, %d, want %d", x.text, y.text, l, e, x.e)
				}
			}
		}
	}
}

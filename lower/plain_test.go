package lower_test

import (
	"math"
	"slices"
	"strconv"
	"strings"
	"testing"

	"trammel/api"
	"trammel/lower"
)

// P12.1: all other instructions are as they are, with all that belongs to them.
func TestPlain(t *testing.T) {
	lowersAll(t, []lowered{
		{":", "unreachable", "unreachable; end", ""},
		{":i", "i32 5; return", "i32 k5; return; end", ""},
		{":", "call 2; i32 1; call 0; i64 2; call 1; call 3; drop; drop; drop", "call a2; i32 k1; call; i64 k2; call a1; call a3; drop; drop; drop; end", ""},
		{":", "i32 1; i32 2; i32 3; call 4", "i32 k1; i32 k2; i32 k3; call a4; end", ""},
		{":", "i32 1; i64 2; i32 0; call_indirect iI:Ii 0; drop; drop", "i32 k1; i64 k2; i32; call_indirect a2 #0; drop; drop; end", ""},
		{":", "i32 1; i32 2; i32 3; select; drop", "i32 k1; i32 k2; i32 k3; select; drop; end", ""},
		{"iI:", "local.get 0; local.set 0; local.get 1; local.tee 1; drop", "local.get; local.set; local.get a1; local.tee a1; drop; end", ""},
		{":", "global.get 0; drop; global.get 3; global.set 1; global.get 2; global.set 2", "global.get; drop; global.get a3; global.set a1; global.get a2; global.set a2; end", ""},
		{":", "i32 -1; drop; i32 2147483647; drop; i32 -2147483648; drop; i64 9223372036854775807; drop; i64 -9223372036854775808; drop", "i32 k-1; drop; i32 k2147483647; drop; i32 k-2147483648; drop; i64 k9223372036854775807; drop; i64 k-9223372036854775808; drop; end", ""},
		{":", "i32; 28 2 4294967295; drop; i32; 29 3 8; drop; i32; i64; 37 0 4294967295", "i32; 28 a2 b4294967295 #0; drop; i32; 29 a3 b8 #1; drop; i32; i64; 37 b4294967295 #2; end", ""},
		{":", "i32; i32; i32; memory.init 2; data.drop 1; i32; i32; i32; table.init 1 0; elem.drop 1", "i32; i32; i32; memory.init a2 #0; data.drop a1; i32; i32; i32; table.init a1 #1; elem.drop a1; end", ""},
	})
}

// ofTypes is a text that lays values, each with an end of its own; x is any.
func ofTypes(letters string) string {
	s := ""
	for _, x := range letters {
		s += map[rune]string{'i': "i32 7; ", 'I': "i64 9; ", 'x': "i32 8; "}[x]
	}
	return s
}

// flatOf a text of constants alone.
func flatOf(text string) string {
	return strings.NewReplacer("i32 ", "i32 k", "i64 ", "i64 k").Replace(text)
}

// P12.1, P12.2: each code of a row is as it is, is a site or none, and takes and gives what the row
// says. (The locals are an i and an I, of all segments and globals the numbers 0 to 1 are there.)
func TestEachCode(t *testing.T) {
	for _, r := range rows() {
		if r.from == api.Nop {
			continue
		}
		for op := r.from; op <= r.to; op++ {
			in, out, _ := strings.Cut(r.sig, ":")
			word := strconv.FormatInt(int64(op), 16)
			if op == api.GlobalSet {
				word += " 2"
			}
			text := ofTypes(in) + word + "; "
			flat := flatOf(ofTypes(in)) + wordOf(op)
			if op == api.GlobalSet {
				flat += " a2"
			}
			if r.site {
				flat += " #0"
			}
			drops := strings.Repeat("; drop", len(out))
			lowers(t, "i:", "I", text+"nop"+drops, flat+drops+"; end", "")
			lowers(t, "i:", "I", "unreachable; "+text+"nop"+drops, "unreachable; end", "")
		}
	}
}

// P12.1: sites are numbered from 0 on, in order; the dead ones aren't.
func TestSites(t *testing.T) {
	lowersAll(t, []lowered{
		{":", "i32; 28 2 4; drop; block; i32; i32; i32; memory.fill; br 0; i32; 28 0 0; drop; i32; call_indirect : 0; end; i32; i32; i32; table.copy; i32; call_indirect : 0; data.drop 0; elem.drop 0; memory.size; memory.grow; drop; call 2; i32; i64; 3e 2 5",
			"i32; 28 a2 b4 #0; drop; i32; i32; i32; memory.fill #1; br >8,0,0; i32; i32; i32; table.copy #2; i32; call_indirect #3; data.drop; elem.drop; memory.size; memory.grow; drop; call a2; i32; i64; 3e a2 b5 #4; end", ""},
		{":i", "i32 1; if :i; i32 2; 28 0 0; else; i32 3; 2d 0 0; end; 2c 0 0", "i32 k1; jumpnot >5,0,0; i32 k2; 28 #0; jump >7,0,0; i32 k3; 2d #1; 2c #2; end", ""},
		{":i", "i32 1; if :i; unreachable; 28 0 0; else; i32 3; 2d 0 0; end; 2c 0 0", "i32 k1; jumpnot >3,0,0; unreachable; i32 k3; 2d #0; 2c #1; end", ""},
		{":", "loop; i32; i32; i32; memory.copy; i32; i32; i32; memory.init 0; br 0; i32; i32; i32; memory.copy; end; i32; i32; i32; table.init 0 0", "i32; i32; i32; memory.copy #0; i32; i32; i32; memory.init #1; br >0,0,0; i32; i32; i32; table.init #2; end", "0,0,0"},
		{":", "unreachable; 28 0 0; memory.copy; call_indirect : 0; drop", "unreachable; end", ""},
	})
	many := strings.Repeat("; 28 0 0", 1500)
	c := world()
	x, e := lower.Lower(c, funcOf(":i", "", "i32"+many+"; end"))
	if e != api.OK || x.Sites != 1500 || len(x.Flat) != 1502 {
		t.Fatalf("%d sites of %d instructions, %d", x.Sites, len(x.Flat), e)
	}
	for i, y := range x.Flat[1:1501] {
		if y.Site != i {
			t.Fatalf("site %d has the number %d", i, y.Site)
		}
	}
}

// P12.1: the function's type, and its locals' types, the parameters first.
func TestTypeAndLocals(t *testing.T) {
	c := world()
	for _, x := range []struct{ own, locals, all string }{
		{":", "", ""}, {"i:", "", "i"}, {":", "I", "I"}, {"i:", "I", "iI"}, {"I:", "i", "Ii"}, {"iI:", "iIi", "iIiIi"}, {"iI:Ii", "", "iI"}, {"iI:Ii", "II", "iIII"}, {"iiI:Iii", "Ii", "iiIIi"},
		{":iI", strings.Repeat("iI", api.MaxLocals/2), strings.Repeat("iI", api.MaxLocals/2)}, {"i:", strings.Repeat("I", api.MaxLocals-1), "i" + strings.Repeat("I", api.MaxLocals-1)},
	} {
		for _, text := range []string{"unreachable; end", "loop; br 0; end; unreachable; end"} {
			got, e := lower.Lower(c, funcOf(x.own, x.locals, text))
			want := sigOf(x.own)
			if e != api.OK || !slices.Equal(got.Type.Params, want.Params) || !slices.Equal(got.Type.Results, want.Results) {
				t.Errorf("%s: %+v, %d", x.own, got.Type, e)
			}
			if !slices.Equal(got.Locals, typesOf(x.all)) {
				t.Errorf("%s %s: %v, want %s", x.own, x.locals, got.Locals, x.all)
			}
		}
	}
	odd := []int{0, -1, api.I32, math.MaxInt, math.MinInt}
	f := api.Func{Type: sigNumber("I:"), Locals: odd, Body: bodyOf("end")}
	if got, e := lower.Lower(c, f); e != api.OK || !slices.Equal(got.Locals, append([]int{api.I64}, odd...)) {
		t.Errorf("%v, %d", got.Locals, e)
	}
}

// P12.1: a function of each type that there is, and blocks of each of these, by its number.
func TestEachType(t *testing.T) {
	c := world()
	for n, s := range strings.Fields(worldTypes) {
		in, out, _ := strings.Cut(s, ":")
		f := api.Func{Type: n, Body: bodyOf("unreachable; end")}
		x, e := lower.Lower(c, f)
		if e != api.OK || len(x.Type.Params) != len(in) || len(x.Type.Results) != len(out) {
			t.Errorf("%s: %+v, %d", s, x, e)
		}
		number := strconv.Itoa(n)
		drops := strings.Repeat("; drop", len(out))
		values := "i32 6; " + ofTypes(in)
		at := len(in) + 1
		lowers(t, ":i", "", values+"block "+number+"; unreachable; end"+drops, flatOf(values)+"unreachable"+drops+"; end", "")
		lowers(t, ":i", "", values+"loop "+number+"; br 0; end"+drops, flatOf(values)+"br >"+commas(at, len(in), 1)+drops+"; end", commas(at, 1, len(in)))
		lowers(t, ":i", "", values+"block "+number+"; "+ofTypes(out)+"br 0; end"+drops, flatOf(values+ofTypes(out))+"br >"+commas(at+len(out)+1, len(out), 1)+drops+"; end", "")
	}
}

// repeated instructions of a text.
func repeated(n int, text string) string { return strings.Repeat(text+"; ", n) }

// long body of instructions again and again, and an end.
func long(n int, words string) api.Func {
	l := bodyOf(words)
	f := api.Func{Type: sigNumber(":")}
	for len(f.Body) < n-1 {
		f.Body = append(f.Body, l[len(f.Body)%len(l)])
	}
	f.Body = append(f.Body, api.Instr{Op: api.End})
	return f
}

// P12.1, P12.3: as many blocks in one another, and as many instructions, as there may be; one more
// is no body.
func TestLargest(t *testing.T) {
	c := world()
	blocks := func(n int, word string) api.Func {
		return funcOf(":", "", repeated(n, word)+repeated(n, "end")+"end")
	}
	for _, x := range []struct {
		f    api.Func
		size int
		e    api.Errno
	}{
		{blocks(api.MaxDeep, "block"), 1, api.OK}, {blocks(api.MaxDeep+1, "block"), 0, api.ErrForm}, {blocks(api.MaxDeep, "loop"), 1, api.OK}, {blocks(api.MaxDeep+1, "loop"), 0, api.ErrForm},
		{blocks(api.MaxDeep, "i32; if"), 2*api.MaxDeep + 1, api.OK}, {blocks(api.MaxDeep+1, "i32; if"), 0, api.ErrForm},
		{long(api.MaxBody, "nop"), 1, api.OK}, {long(api.MaxBody+1, "nop"), 0, api.ErrForm}, {long(api.MaxBody, "unreachable"), 2, api.OK}, {long(api.MaxBody+1, "unreachable"), 0, api.ErrForm},
		{long(api.MaxBody, "call 2"), api.MaxBody, api.OK}, {long(api.MaxBody+1, "call 2"), 0, api.ErrForm}, {long(api.MaxBody-1, "i64 5; drop"), api.MaxBody - 1, api.OK}, {long(api.MaxBody, "i64 5; drop"), 0, api.ErrType},
		{long(api.MaxBody-1, "block; end"), 1, api.OK}, {long(4*499+1, "i32 1; if; else; end"), 3*499 + 1, api.OK}, {long(4*499+1, "loop; i32 1; br_if 0; end"), 2*499 + 1, api.OK},
	} {
		got, e := lower.Lower(c, x.f)
		if e != x.e || len(got.Flat) != x.size {
			t.Errorf("%d instructions, the first %+v: %d, %d; want %d, %d", len(x.f.Body), x.f.Body[0], len(got.Flat), e, x.size, x.e)
		}
		alike(t, c, x.f)
	}
}

// P12.1: branches out of as many blocks as there may be, each with a value of its own below it.
func TestDeepBranches(t *testing.T) {
	c := world()
	for n := 1; n <= api.MaxDeep; n++ {
		for out := range n + 1 {
			text := repeated(n, "i64 1; block") + "br " + strconv.Itoa(out) + "; " + repeated(n, "end; drop") + "end"
			x, e := lower.Lower(c, funcOf(":", "", text))
			if e != api.OK || len(x.Flat) != 2*n+2 {
				t.Fatalf("%s: %d, %d", text, len(x.Flat), e)
			}
			want := api.Flat{Op: api.Br, A: out, To: []api.Target{{To: n + 1 + out, Height: n - out}}, Site: -1}
			if !sameFlat(x.Flat[n], want) {
				t.Errorf("%s: %+v, want %+v", text, x.Flat[n], want)
			}
		}
	}
}

// P12.1: heights and places far on, of every kind of target.
func TestFar(t *testing.T) {
	c := world()
	const below = 900
	for _, x := range []struct {
		text  string
		op    int
		to    []api.Target
		loops []api.Head
	}{
		{"block; br 0; end", api.Br, []api.Target{{To: below + 1, Height: below}}, nil},
		{"i32 1; br_if 0", api.BrIf, []api.Target{{To: 2*below + 2}}, nil},
		{"i32 1; loop i:i; i32 2; br_if 0; end; drop", api.BrIf, []api.Target{{To: below + 1, Keep: 1, Height: below}}, []api.Head{{At: below + 1, Height: below, Own: 1}}},
		{"loop; i32 2; br_table 0 1 0; end", api.BrTable, []api.Target{{To: below, Height: below}, {To: 2*below + 2}, {To: below, Height: below}}, []api.Head{{At: below, Height: below}}},
		{"i32 1; if; end", api.JumpNot, []api.Target{{To: below + 2}}, nil},
		{"i32 1; if; else; end", api.Jump, []api.Target{{To: below + 3}}, nil},
		{"i32 1; if; br 0; else; br 0; end", api.Br, []api.Target{{To: below + 4, Height: below}}, nil},
	} {
		f := funcOf(":", "", repeated(below, "i64 1")+x.text+"; "+repeated(below, "drop")+"end")
		got, e := lower.Lower(c, f)
		at := slices.IndexFunc(got.Flat, func(y api.Flat) bool { return y.Op == x.op })
		if e != api.OK || at < 0 || !slices.Equal(got.Flat[at].To, x.to) || !slices.Equal(got.Loops, x.loops) {
			t.Errorf("%s: %d, loops %+v", x.text, e, got.Loops)
			continue
		}
		alike(t, c, f)
	}
}

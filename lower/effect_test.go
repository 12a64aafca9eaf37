package lower_test

import (
	"math"
	"strings"
	"testing"

	"trammel/api"
	"trammel/lower"
)

func effect(t *testing.T, c api.Ctx, x api.Instr, in, out int, ok bool) {
	t.Helper()
	gotIn, gotOut, gotOk := lower.Effect(c, x)
	if gotIn != in || gotOut != out || gotOk != ok {
		t.Errorf("Effect(%+v) = %d, %d, %v, want %d, %d, %v", x, gotIn, gotOut, gotOk, in, out, ok)
	}
}

// numbers of codes, those that are none among them.
func allCodes() []int {
	l := []int{math.MinInt, math.MinInt32, math.MaxInt32, math.MaxInt, 1 << 32, 1<<32 + api.Call, 1<<32 + 0x28, -1 << 32}
	for op := -1200; op < 1200; op++ {
		l = append(l, op)
	}
	return l
}

// names that are there, that aren't, and that can't be.
func names() []int {
	return []int{0, 1, 2, 3, 4, 5, -1, -2, -3, api.Empty, 63, 64, 65, 1000, math.MaxInt32, math.MaxUint32, 1 << 32, math.MaxInt, math.MinInt, math.MinInt32}
}

// P12.2: of each code, whatever stands beside it, there or not there. What begins or ends a block,
// branches, or is none has no effect.
func TestEffect(t *testing.T) {
	for _, c := range []api.Ctx{world(), contextOf(api.Module{})} {
		for _, op := range allCodes() {
			if op == api.Call || op == api.CallTable {
				continue
			}
			r, ok := rowOf[op]
			in, out, _ := strings.Cut(r.sig, ":")
			for _, n := range names() {
				effect(t, c, api.Instr{Op: op, A: n}, len(in), len(out), ok)
				effect(t, c, api.Instr{Op: op, B: n}, len(in), len(out), ok)
				effect(t, c, api.Instr{Op: op, A: n, B: n, K: int64(n), L: []int{n}}, len(in), len(out), ok)
			}
		}
	}
}

// P12.2: written out, of some of each kind.
func TestEffectSome(t *testing.T) {
	c := world()
	for text, want := range map[string][2]int{
		"nop": {0, 0}, "drop": {1, 0}, "select": {3, 1}, "local.get 0": {0, 1}, "local.set 0": {1, 0}, "local.tee 0": {1, 1}, "global.get 0": {0, 1}, "global.set 1": {1, 0},
		"28 2 0": {1, 1}, "35 0 0": {1, 1}, "36 2 0": {2, 0}, "3e 0 0": {2, 0}, "memory.size": {0, 1}, "memory.grow": {1, 1}, "i32 5": {0, 1}, "i64 5": {0, 1},
		"45": {1, 1}, "46": {2, 1}, "4f": {2, 1}, "50": {1, 1}, "51": {2, 1}, "5a": {2, 1}, "67": {1, 1}, "69": {1, 1}, "6a": {2, 1}, "78": {2, 1}, "79": {1, 1}, "7b": {1, 1}, "7c": {2, 1}, "8a": {2, 1}, "a7": {1, 1}, "ac": {1, 1}, "ad": {1, 1}, "c0": {1, 1}, "c4": {1, 1},
		"memory.init 0": {3, 0}, "data.drop 0": {0, 0}, "memory.copy": {3, 0}, "memory.fill": {3, 0}, "table.init 0 0": {3, 0}, "elem.drop 0": {0, 0}, "table.copy": {3, 0},
		"call 0": {1, 1}, "call 1": {2, 2}, "call 2": {0, 0}, "call 3": {0, 1}, "call 4": {3, 0}, "call_indirect : 0": {1, 0}, "call_indirect :I 0": {1, 1}, "call_indirect iI:Ii 0": {3, 2}, "call_indirect iiI:Iii 0": {4, 3}, "call_indirect iii: 0": {4, 0},
	} {
		effect(t, c, instrOf(strings.Fields(text)), want[0], want[1], true)
	}
	for _, text := range []string{
		"unreachable", "block", "block i:i", "loop", "loop :i", "if", "if i:", "else", "end", "br 0", "br_if 0", "br_table 0 0", "return", "jump", "jumpnot",
		"1c", "25", "2a", "43", "44", "5b", "66", "8b", "a6", "a8", "ae", "bf", "c5", "d0", "fc", "fd", "100", "107", "10f", "110", "202", "ff", "6", "12", "-1",
	} {
		effect(t, c, instrOf(strings.Fields(text)), 0, 0, false)
	}
}

// P12.2: calls of functions and types that are there and that aren't; the numbers of blocks' types
// that are no types' are none. Whether there is a table isn't looked at.
func TestEffectOfCalls(t *testing.T) {
	c, none := world(), contextOf(api.Module{})
	bare := worldModule()
	bare.Tables, bare.Funcs, bare.Imports = nil, nil, nil
	noTable := contextOf(bare)
	for _, n := range names() {
		for _, b := range names() {
			own, there := api.FuncType{}, n >= 0 && n < len(c.Funcs)
			if there {
				own = c.Types[c.Funcs[n]]
			}
			effect(t, c, api.Instr{Op: api.Call, A: n, B: b}, len(own.Params), len(own.Results), there)
			effect(t, none, api.Instr{Op: api.Call, A: n, B: b}, 0, 0, false)
			effect(t, noTable, api.Instr{Op: api.Call, A: n, B: b}, 0, 0, false)
			effect(t, none, api.Instr{Op: api.CallTable, A: n, B: b}, 0, 0, false)
		}
	}
	last := len(c.Types) - 1
	for _, b := range names() {
		for n, own := range c.Types {
			x := api.Instr{Op: api.CallTable, A: n, B: b, K: int64(b), L: []int{b}}
			effect(t, c, x, len(own.Params)+1, len(own.Results), true)
			effect(t, noTable, x, len(own.Params)+1, len(own.Results), true)
		}
		for _, n := range []int{-1, -2, -3, api.Empty, last + 1, last + 2, 1000, math.MaxInt, math.MinInt, 1 << 32} {
			effect(t, c, api.Instr{Op: api.CallTable, A: n, B: b}, 0, 0, false)
		}
	}
}

// P12.2: each code that is there takes and gives just as many values in a body as is told: with as
// many it is right, with one less, or one that is left, it isn't.
func TestEffectInBodies(t *testing.T) {
	c := world()
	for op, r := range rowOf {
		in, out, _ := strings.Cut(r.sig, ":")
		x := api.Instr{Op: op}
		if op == api.GlobalSet {
			x.A = 2
		}
		n, m, _ := lower.Effect(c, x)
		values, drops := bodyOf(ofTypes(in)), bodyOf(strings.Repeat("drop; ", m))
		for _, some := range []struct {
			skip, left int
			e          api.Errno
		}{{0, 0, api.OK}, {1, 0, api.ErrType}, {0, 1, api.ErrType}} {
			if some.skip > n || some.left > m {
				continue
			}
			f := funcOf("i:", "", "")
			f.Body = append(f.Body, values[some.skip:n]...)
			f.Body = append(f.Body, x)
			f.Body = append(f.Body, drops[some.left:]...)
			f.Body = append(f.Body, api.Instr{Op: api.End})
			if _, e := lower.Lower(c, f); e != some.e || m != len(out) {
				t.Errorf("%x: %d, %d, %+v: %d", op, n, m, f.Body, e)
			}
		}
	}
}

// P12.2: the sites are loads, stores, memory.init, .copy, .fill, call_indirect, table.init and
// table.copy, and nothing else.
func TestTested(t *testing.T) {
	sites := map[int]bool{}
	for _, op := range []int{
		0x28, 0x29, 0x2c, 0x2d, 0x2e, 0x2f, 0x30, 0x31, 0x32, 0x33, 0x34, 0x35, 0x36, 0x37, 0x3a, 0x3b, 0x3c, 0x3d, 0x3e,
		0x108, 0x10a, 0x10b, 0x11, 0x10c, 0x10e,
	} {
		sites[op] = true
	}
	for _, op := range allCodes() {
		if got := lower.Tested(op); got != sites[op] || got != siteOf(op) {
			t.Errorf("Tested(%x) = %v", op, got)
		}
	}
}

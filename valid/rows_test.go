package valid

import (
	"fmt"
	"math"
	"strings"
	"testing"

	"trammel/api"
)

// row is an instruction, and what it takes and gives, the last one on top.
type row struct {
	text, takes, gives string
}

// inContext looks at a row alone: right; with too few, too many and other values; at what it gives;
// and where values of any type are below.
func (r row) inContext(t *testing.T, c api.Ctx) {
	t.Helper()
	holds := func(own, text string, e api.Errno) {
		t.Helper()
		in(t, c, own, "iI", text+"; end", e)
	}
	give := ":" + r.gives
	holds(give, consts(r.takes)+r.text, api.OK)
	holds(":I"+r.gives, consts("I"+r.takes)+r.text, api.OK)
	holds(give, consts("i"+r.takes)+r.text, api.ErrType)
	holds(give+"i", consts(r.takes)+r.text, api.ErrType)
	holds(give, consts(r.takes)+r.text+"; i64", api.ErrType)
	for n := range r.takes {
		holds(give, consts(r.takes[n+1:])+r.text, api.ErrType)
		wrong := r.takes[:n] + other(r.takes[n:n+1]) + r.takes[n+1:]
		holds(give, consts(wrong)+r.text, api.ErrType)
		holds(give, "unreachable; "+consts(wrong)+r.text, api.ErrType)
		holds(give, "unreachable; "+consts(r.takes[n+1:])+r.text, api.OK)
	}
	for n := 1; n <= len(r.takes); n++ { // some of it below the block's own stack
		below := consts(r.takes[:n]) + "block; " + consts(r.takes[n:]) + r.text + strings.Repeat("; drop", len(r.gives)) + "; end"
		holds(":", below, api.ErrType)
		holds(":"+r.takes[:n], below, api.ErrType)
	}
	holds(give, "unreachable; "+r.text, api.OK)
	holds(give, "unreachable; "+consts(r.takes)+r.text, api.OK)
	holds(":iI"+r.gives, "unreachable; "+r.text, api.OK)
	for n := range r.gives {
		wrong := r.gives[:n] + other(r.gives[n:n+1]) + r.gives[n+1:]
		holds(":"+wrong, consts(r.takes)+r.text, api.ErrType)
		holds(":"+wrong, "unreachable; "+r.text, api.ErrType)
		holds(":"+r.gives[n+1:], consts(r.takes)+r.text, api.ErrType)
		holds(":"+r.gives[n+1:], "unreachable; "+r.text, api.ErrType)
	}
}

func plainRows() []row {
	return []row{
		{"nop", "", ""}, {"i32 -1", "", "i"}, {"i64 -1", "", "I"},
		{"call 0", "i", "i"}, {"call 1", "", ""}, {"call 2", "", "I"}, {"call 3", "iI", "Ii"},
		{"call_indirect : 0", "i", ""}, {"call_indirect i:i 0", "ii", "i"}, {"call_indirect iI:Ii 0", "iIi", "Ii"}, {"call_indirect II:i 0", "IIi", "i"}, {"call_indirect iIiIiIiI:IiIiIiIi 0", "iIiIiIiIi", "IiIiIiIi"},
		{"local.get 0", "", "i"}, {"local.get 1", "", "I"}, {"local.set 0", "i", ""}, {"local.set 1", "I", ""}, {"local.tee 0", "i", "i"}, {"local.tee 1", "I", "I"},
		{"global.get 0", "", "i"}, {"global.get 1", "", "I"}, {"global.get 2", "", "i"}, {"global.get 3", "", "I"}, {"global.set 1", "I", ""}, {"global.set 2", "i", ""},
		{"memory.size", "", "i"}, {"memory.grow", "i", "i"}, {"memory.init 0", "iii", ""}, {"memory.init 2", "iii", ""}, {"memory.copy", "iii", ""}, {"memory.fill", "iii", ""}, {"data.drop 2", "", ""},
		{"table.init 1 0", "iii", ""}, {"table.copy 0 0", "iii", ""}, {"elem.drop 1", "", ""},
		{"block i:i; end", "i", "i"}, {"loop iI:Ii; drop; drop; i64; i32; end", "iI", "Ii"}, {"if iI:iI; end", "iIi", "iI"}, {"if; else; end", "i", ""}, {"if i:I; drop; i64; else; ac; end", "ii", "I"}, {"block :I; i64; end", "", "I"},
		{"select; eqz", "iii", "i"}, {"select; i64.eqz", "IIi", "i"},
	}
}

// P10.1: each row of the chapter's table that goes on behind itself.
func TestRows(t *testing.T) {
	for _, r := range plainRows() {
		r.inContext(t, world())
	}
}

// P10.1: the numbers, by their codes, and the accesses, with A up to its greatest and B whatever it
// is.
func TestNumbersAndAccesses(t *testing.T) {
	for op, s := range rowOf {
		takes, gives, _ := strings.Cut(s, ":")
		most, access := mostOf[op]
		if op < 0x45 && !access || op > 0x100 {
			continue
		}
		for a := 0; a <= most; a++ {
			for _, b := range []int{0, 1, math.MaxUint32} {
				if access || a+b == 0 {
					r := row{fmt.Sprintf("%x %d %d", op, a, b), takes, gives}
					r.inContext(t, world())
				}
			}
		}
	}
	if len(mostOf) != 19 || len(rowOf) != 19+66+15 {
		t.Errorf("%d accesses of %d rows", len(mostOf), len(rowOf))
	}
}

// P10.1: A of an access above its greatest is ErrArg, with all there, with too few and other values,
// and behind an unreachable; without a memory it is ErrIndex.
func TestAlign(t *testing.T) {
	bare := world()
	bare.Mems = nil
	for op, most := range mostOf {
		takes, gives, _ := strings.Cut(rowOf[op], ":")
		for _, ahead := range []string{consts(takes), "", consts(other(takes)), "unreachable; ", "i32; " + consts(takes)} {
			for _, a := range []int{most + 1, most + 2, 8, 31, 32, 63, 64, 1 << 31, math.MaxUint32} {
				text := fmt.Sprintf("%s%x %d 0; end", ahead, op, a)
				in(t, world(), ":"+gives, "", text, api.ErrArg)
				in(t, bare, ":"+gives, "", text, api.ErrIndex)
			}
			in(t, bare, ":"+gives, "", fmt.Sprintf("%s%x %d 0; end", ahead, op, most), api.ErrIndex)
		}
	}
}

// missing is an instruction that names something that isn't there, and the nearest one that does not.
type missing struct {
	text, right  string
	takes, gives string
}

func missings() []missing {
	return []missing{
		{"br 1", "br 0", "", ""}, {"br_if 1", "br_if 0", "i", ""}, {"br_table 1", "br_table 0", "i", ""}, {"br_table 1 0", "br_table 0 0", "i", ""}, {"br_table 0 1", "br_table 0 0", "i", ""}, {"br_table 0 0 1 0 0", "br_table 0 0 0 0 0", "i", ""},
		{"br 4294967295", "br 0", "", ""}, {"br_if 4294967295", "br_if 0", "i", ""}, {"br_table 4294967295 0", "br_table 0 0", "i", ""}, {"br_table 0 4294967295", "br_table 0 0", "i", ""},
		{"call 4", "call 3", "iI", "Ii"}, {"call 4294967295", "call 1", "", ""},
		{"call_indirect 6 0", "call_indirect 5 0", "i", "Ii"}, {"call_indirect 4294967295 0", "call_indirect 0 0", "i", ""}, {"call_indirect 0 1", "call_indirect 0 0", "i", ""}, {"call_indirect 0 4294967295", "call_indirect 0 0", "i", ""}, {"call_indirect 6 1", "call_indirect 0 0", "i", ""},
		{"local.get 2", "local.get 1", "", "I"}, {"local.set 2", "local.set 1", "I", ""}, {"local.tee 2", "local.tee 1", "I", "I"}, {"local.get 4294967295", "local.get 0", "", "i"},
		{"global.get 5", "global.get 4", "", "I"}, {"global.set 5", "global.set 4", "I", ""}, {"global.get 4294967295", "global.get 3", "", "I"}, {"global.set 4294967295", "global.set 4", "I", ""},
		{"memory.init 3", "memory.init 2", "iii", ""}, {"memory.init 4294967295", "memory.init 0", "iii", ""}, {"data.drop 3", "data.drop 2", "", ""}, {"data.drop 4294967295", "data.drop 0", "", ""},
		{"table.init 2 0", "table.init 1 0", "iii", ""}, {"table.init 4294967295 0", "table.init 0 0", "iii", ""}, {"table.init 0 1", "table.init 0 0", "iii", ""}, {"table.init 1 4294967295", "table.init 1 0", "iii", ""},
		{"table.copy 1 0", "table.copy 0 0", "iii", ""}, {"table.copy 0 1", "table.copy 0 0", "iii", ""}, {"table.copy 4294967295 0", "table.copy 0 0", "iii", ""},
		{"elem.drop 2", "elem.drop 1", "", ""}, {"elem.drop 4294967295", "elem.drop 0", "", ""},
		{"block 6; drop; end", "block 5; i64; i32; end", "", "Ii"}, {"loop 6; end", "loop 5; i64; i32; end", "", "Ii"}, {"if 6; end", "if 5; i64; i32; else; i64; i32; end", "i", "Ii"}, {"block 4294967295; end", "block 0; end", "", ""},
	}
}

// P10.1: what is named and isn't there, one beyond the last and far beyond; whatever it would take
// isn't looked at. (The last type is 5.)
func TestMissing(t *testing.T) {
	c := world()
	typed(&c, ":i")
	typed(&c, ":Ii")
	for _, x := range missings() {
		own, rest := ":"+x.gives, "; end"
		in(t, c, own, "iI", consts(x.takes)+x.right+rest, api.OK)
		in(t, c, own, "iI", "unreachable; "+x.right+rest, api.OK)
		for _, ahead := range []string{consts(x.takes), "", consts(other(x.takes)), "unreachable; ", "unreachable; " + consts(other(x.takes))} {
			in(t, c, own, "iI", ahead+x.text+rest, api.ErrIndex)
		}
	}
}

// P10.1: of a thing of which there is none nothing can be named; of the others still.
func TestNothingThere(t *testing.T) {
	for _, x := range []struct {
		change func(*api.Ctx)
		gone   []string
		takes  string
		right  []row
	}{
		{func(c *api.Ctx) { c.Mems = nil }, []string{"memory.size", "memory.grow", "memory.init 0", "memory.copy", "memory.fill", "28 2 0", "3e 0 0"}, "iii", []row{{"data.drop 2", "", ""}, {"table.copy 0 0", "iii", ""}}},
		{func(c *api.Ctx) { c.Tables = nil }, []string{"call_indirect 0 0", "table.init 0 0", "table.copy 0 0"}, "iii", []row{{"elem.drop 1", "", ""}, {"memory.copy", "iii", ""}, {"call 1", "", ""}}},
		{func(c *api.Ctx) { c.Counted = false }, []string{"memory.init 0", "data.drop 0", "memory.init 3", "data.drop 3"}, "iii", []row{{"memory.copy", "iii", ""}, {"memory.fill", "iii", ""}, {"table.init 1 0", "iii", ""}, {"elem.drop 0", "", ""}}},
		{func(c *api.Ctx) { c.Datas = 0 }, []string{"memory.init 0", "data.drop 0"}, "iii", []row{{"memory.copy", "iii", ""}, {"elem.drop 1", "", ""}}},
		{func(c *api.Ctx) { c.Elems = 0 }, []string{"table.init 0 0", "elem.drop 0"}, "iii", []row{{"table.copy 0 0", "iii", ""}, {"data.drop 2", "", ""}}},
		{func(c *api.Ctx) { c.Funcs = nil }, []string{"call 0", "call 1"}, "i", []row{{"call_indirect i:i 0", "ii", "i"}}},
		{func(c *api.Ctx) { c.Funcs = []int{9, 0, -1, math.MinInt, math.MaxInt} }, []string{"call 0", "call 2", "call 3", "call 4", "call 5"}, "i", []row{{"call 1", "", ""}}},
		{func(c *api.Ctx) { c.Globals = nil }, []string{"global.get 0", "global.set 0", "global.set 2"}, "i", []row{{"local.get 0", "", "i"}}},
		{func(c *api.Ctx) { c.Mems, c.Counted, c.Datas = nil, false, 0 }, []string{"memory.init 0", "data.drop 0"}, "iii", []row{{"table.init 0 0", "iii", ""}}},
		{func(c *api.Ctx) { c.Datas, c.Elems = -1, math.MinInt }, []string{"memory.init 0", "data.drop 0", "table.init 0 0", "elem.drop 0"}, "iii", nil},
	} {
		c := world()
		x.change(&c)
		for _, text := range x.gone {
			in(t, c, ":", "iI", consts(x.takes)+text+"; end", api.ErrIndex)
			in(t, c, ":", "iI", text+"; end", api.ErrIndex)
			in(t, c, ":", "iI", "unreachable; "+text+"; end", api.ErrIndex)
		}
		for _, r := range x.right {
			r.inContext(t, c)
		}
	}
}

// P10.1: a global that isn't mutable is ErrArg of a set, whatever is there to be set.
func TestMutable(t *testing.T) {
	for _, ahead := range []string{"", "i32; ", "i64; ", "unreachable; ", "i32; i64; ", "i64; i32; "} {
		not(t, ":", ahead+"global.set 0", api.ErrArg)
		not(t, ":", ahead+"global.set 3", api.ErrArg)
		not(t, ":", ahead+"global.set 5", api.ErrIndex)
	}
	ok(t, ":", "i64; global.set 1")
	ok(t, ":", "i32; global.set 2")
	off(t, ":", "i32; global.set 1")
	off(t, ":", "i64; global.set 2")
	off(t, ":", "global.set 2")
}

// P10.1: of two instructions the first one's error, of whatever kind; of one ErrIndex ahead of
// ErrArg, and this ahead of ErrType.
func TestOrder(t *testing.T) {
	wrongs := []struct {
		text string
		e    api.Errno
	}{
		{"call 4", api.ErrIndex}, {"br 9", api.ErrIndex}, {"block 99; end", api.ErrIndex}, {"local.get 0", api.ErrIndex}, {"global.set 5", api.ErrIndex}, {"elem.drop 2", api.ErrIndex}, {"br_table 9 0", api.ErrIndex},
		{"global.set 0", api.ErrArg}, {"28 3 0", api.ErrArg}, {"3c 1 0", api.ErrArg}, {"i32; global.set 3", api.ErrArg},
		{"drop", api.ErrType}, {"i64; eqz; drop", api.ErrType}, {"select; drop", api.ErrType}, {"i64; if; end", api.ErrType}, {"block :i; end; drop", api.ErrType}, {"block; i32; end", api.ErrType}, {"i32; if :i; i32; end; drop", api.ErrType}, {"local.get 0; drop", api.ErrIndex}, {"br_if 0", api.ErrType}, {"28 2 0; drop", api.ErrType},
	}
	for _, a := range wrongs {
		not(t, ":", a.text, a.e)
		not(t, ":", "block; "+a.text+"; end", a.e)
		for _, b := range wrongs {
			not(t, ":", a.text+"; "+b.text, a.e)
			not(t, ":", a.text+"; unreachable; "+b.text, a.e)
			not(t, ":", "block; "+a.text+"; end; "+b.text, a.e)
			not(t, ":", "i32; if; "+a.text+"; else; "+b.text+"; end", a.e)
		}
		not(t, ":i", a.text, a.e)
	}
}

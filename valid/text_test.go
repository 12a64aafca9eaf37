package valid

import (
	"slices"
	"strconv"
	"strings"
	"testing"

	"trammel/api"
)

// Bodies are written as words: "block :i; i32 5; end; end". Types are letters, i and I, what goes
// in ahead of a colon, what comes out behind it, the last one on top. A code without a name is
// sixteen: "28 2 4" is a load with A 2 and B 4.

// codes by their names.
var codes = map[string]int{
	"unreachable": 0x00, "nop": 0x01, "block": 0x02, "loop": 0x03, "if": 0x04, "else": 0x05, "end": 0x0b,
	"br": 0x0c, "br_if": 0x0d, "br_table": 0x0e, "return": 0x0f, "call": 0x10, "call_indirect": 0x11, "drop": 0x1a, "select": 0x1b,
	"local.get": 0x20, "local.set": 0x21, "local.tee": 0x22, "global.get": 0x23, "global.set": 0x24,
	"memory.size": 0x3f, "memory.grow": 0x40, "i32": 0x41, "i64": 0x42, "eqz": 0x45, "i64.eqz": 0x50, "add": 0x6a, "i64.add": 0x7c, "wrap": 0xa7,
	"memory.init": 0x108, "data.drop": 0x109, "memory.copy": 0x10a, "memory.fill": 0x10b, "table.init": 0x10c, "elem.drop": 0x10d, "table.copy": 0x10e,
}

func values(letters string) []int {
	var l []int
	for _, x := range letters {
		l = append(l, map[rune]int{'i': api.I32, 'I': api.I64}[x])
	}
	return l
}

func letters(l []int) string {
	s := ""
	for _, t := range l {
		s += map[int]string{api.I32: "i", api.I64: "I"}[t]
	}
	return s
}

func sig(s string) api.FuncType {
	in, out, _ := strings.Cut(s, ":")
	return api.FuncType{Params: values(in), Results: values(out)}
}

func sameType(a, b api.FuncType) bool {
	return slices.Equal(a.Params, b.Params) && slices.Equal(a.Results, b.Results)
}

// world has of everything some: the last function is 3, global 4, element segment 1, data segment 2.
func world() api.Ctx {
	c := api.Ctx{
		Funcs:   []int{1, 0, 3, 2},
		Globals: []api.Var{{Type: api.I32}, {Type: api.I64, Mutable: true}, {Type: api.I32, Mutable: true}, {Type: api.I64}, {Type: api.I64, Mutable: true}},
		Tables:  []api.Limits{{Min: 1}}, Mems: []api.Limits{{Min: 1}},
		Hosts: 1, Vars: 2, Elems: 2, Datas: 3, Counted: true,
	}
	for _, s := range []string{":", "i:i", "iI:Ii", ":I"} {
		c.Types = append(c.Types, sig(s))
	}
	return c
}

// typed is the number of a type, that is put behind the others if it isn't there.
func typed(c *api.Ctx, s string) int {
	for i, t := range c.Types {
		if sameType(t, sig(s)) {
			return i
		}
	}
	c.Types = append(c.Types, sig(s))
	return len(c.Types) - 1
}

// number of a word: of a type with a colon, or as it is.
func number(c *api.Ctx, word string) int {
	if strings.Contains(word, ":") {
		return typed(c, word)
	}
	n, err := strconv.Atoi(word)
	if err != nil {
		panic(word)
	}
	return n
}

// blockType: of nothing, or of one value that comes out, has a number below 0.
func blockType(c *api.Ctx, words []string) int {
	if len(words) == 0 {
		return api.Empty
	}
	switch words[0] {
	case ":i":
		return -1
	case ":I":
		return -2
	}
	return number(c, words[0])
}

func instruction(c *api.Ctx, words []string) api.Instr {
	op, ok := codes[words[0]]
	if !ok {
		n, err := strconv.ParseInt(words[0], 16, 32)
		if err != nil {
			panic(words[0])
		}
		op = int(n)
	}
	x := api.Instr{Op: op}
	var l []int
	if op == 2 || op == 3 || op == 4 {
		x.A = blockType(c, words[1:])
		return x
	}
	for _, w := range words[1:] {
		l = append(l, number(c, w))
	}
	switch {
	case op == api.Const32 || op == api.Const64:
		if len(l) > 0 {
			x.K = int64(l[0])
		}
	case op == api.BrTable:
		x.L, x.A = l[:len(l)-1], l[len(l)-1]
	default:
		l = append(l, 0, 0)
		x.A, x.B = l[0], l[1]
	}
	return x
}

// body of a text.
func body(c *api.Ctx, text string) []api.Instr {
	var l []api.Instr
	for part := range strings.SplitSeq(text, ";") {
		if words := strings.Fields(part); len(words) > 0 {
			l = append(l, instruction(c, words))
		}
	}
	return l
}

// consts put values on the stack.
func consts(letters string) string {
	s := ""
	for _, x := range letters {
		s += map[rune]string{'i': "i32 7; ", 'I': "i64 9; "}[x]
	}
	return s
}

// other letters: of each value the other type.
func other(s string) string {
	return strings.Map(func(x rune) rune { return x ^ 'i' ^ 'I' }, s)
}

// in a context a function with parameters, a colon and results, further locals, and a text as its
// body.
func in(t *testing.T, c api.Ctx, own, locals, text string, e api.Errno) {
	t.Helper()
	f := api.Func{Type: typed(&c, own), Locals: values(locals)}
	f.Body = body(&c, text)
	if got := Body(c, f); got != e {
		t.Errorf("%s %s, %s: %d, want %d", own, locals, text, got, e)
	}
	if got := modelBody(c, f); got != e {
		t.Errorf("%s %s, %s: the model says %d, want %d", own, locals, text, got, e)
	}
	if !t.Failed() {
		nops(t, c, f, e)
	}
}

// nops: P10.3, with a nop more ahead of each instruction, and ahead of all, the error is the same.
func nops(t *testing.T, c api.Ctx, f api.Func, e api.Errno) {
	t.Helper()
	var all []api.Instr
	for i, x := range f.Body {
		more := f
		more.Body = slices.Insert(slices.Clone(f.Body), i, api.Instr{Op: api.Nop})
		if got := Body(c, more); got != e {
			t.Errorf("%+v with a nop at %d: %d, want %d", f, i, got, e)
		}
		all = append(all, api.Instr{Op: api.Nop}, x)
	}
	f.Body = all
	if got := Body(c, f); got != e {
		t.Errorf("%+v with nops: %d, want %d", f, got, e)
	}
}

// ok and not are functions of the world without locals of their own. The last end is put behind
// the text.
func ok(t *testing.T, own, text string) {
	t.Helper()
	in(t, world(), own, "", text+"; end", api.OK)
}

func not(t *testing.T, own, text string, e api.Errno) {
	t.Helper()
	in(t, world(), own, "", text+"; end", e)
}

// off is a text whose types don't fit.
func off(t *testing.T, own, text string) {
	t.Helper()
	not(t, own, text, api.ErrType)
}

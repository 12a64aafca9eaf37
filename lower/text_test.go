package lower_test

import (
	"slices"
	"strconv"
	"strings"
	"testing"

	"trammel/api"
	"trammel/ctx"
	"trammel/lower"
	"trammel/valid"
)

// Bodies are written as words: "block :i; i32 5; end; end". Types are letters, i and I, what goes
// in ahead of a colon, what comes out behind it, the last one on top. A code without a name is
// sixteen: "28 2 4" is a load with A 2 and B 4. Flat code is written likewise, each number with
// what it is, what is 0 or none left out: "28 a2 b4 #0" has the site 0, "br >7,1,2" goes to the
// place 7 with one value, above two.

var opOf = map[string]int{
	"unreachable": 0x00, "nop": 0x01, "block": 0x02, "loop": 0x03, "if": 0x04, "else": 0x05, "end": 0x0b,
	"br": 0x0c, "br_if": 0x0d, "br_table": 0x0e, "return": 0x0f, "call": 0x10, "call_indirect": 0x11, "drop": 0x1a, "select": 0x1b,
	"local.get": 0x20, "local.set": 0x21, "local.tee": 0x22, "global.get": 0x23, "global.set": 0x24,
	"memory.size": 0x3f, "memory.grow": 0x40, "i32": 0x41, "i64": 0x42, "eqz": 0x45, "i64.eqz": 0x50, "add": 0x6a, "wrap": 0xa7,
	"memory.init": 0x108, "data.drop": 0x109, "memory.copy": 0x10a, "memory.fill": 0x10b, "table.init": 0x10c, "elem.drop": 0x10d, "table.copy": 0x10e,
	"jump": 0x200, "jumpnot": 0x201,
}

// wordOf is what a code is called.
func wordOf(op int) string {
	for word, n := range opOf {
		if n == op {
			return word
		}
	}
	return strconv.FormatInt(int64(op), 16)
}

// The types of the world, by their numbers, of which no text has to speak.
const worldTypes = ": i:i iI:Ii :I i: I: :i :iI ii: ii:i I:I i:I Ii: iii: i:ii ii:ii iI:iI :Ii iI: iI:i iI:I I:i :ii iiI:Iii :Iii ii:I I:iI"

func typesOf(letters string) []int {
	var l []int
	for _, x := range letters {
		l = append(l, map[rune]int{'i': api.I32, 'I': api.I64}[x])
	}
	return l
}

func sigOf(s string) api.FuncType {
	in, out, _ := strings.Cut(s, ":")
	return api.FuncType{Params: typesOf(in), Results: typesOf(out)}
}

// sigNumber of a type of the world.
func sigNumber(s string) int {
	n := slices.Index(strings.Fields(worldTypes), s)
	if n < 0 {
		panic("no type " + s)
	}
	return n
}

// worldModule has of everything some: the last function is 4, global 3, element segment 1, data
// segment 2. The functions are of the types i:i (from outside), iI:Ii, :, :I and iii:.
func worldModule() api.Module {
	m := api.Module{
		Imports: []api.Import{{Type: sigNumber("i:i")}, {Kind: api.Glo, Type: api.I32}, {Kind: api.Glo, Type: api.I64, Mutable: true}},
		Globals: []api.Global{{Type: api.I32, Mutable: true}, {Type: api.I64}},
		Tables:  []api.Limits{{Min: 2}}, Mems: []api.Limits{{Min: 1}},
		Elems: make([]api.Elem, 2), Datas: make([]api.Data, 3), Counts: []int{3},
	}
	for _, s := range strings.Fields(worldTypes) {
		m.Types = append(m.Types, sigOf(s))
	}
	for _, s := range strings.Fields("iI:Ii : :I iii:") {
		m.Funcs = append(m.Funcs, api.Func{Type: sigNumber(s)})
	}
	for i := range m.Elems {
		m.Elems[i].Mode = api.Passive
	}
	for i := range m.Datas {
		m.Datas[i].Mode = api.Passive
	}
	for i, t := range []api.Instr{{Op: api.Const32}, {Op: api.Const64}} {
		m.Globals[i].Init = []api.Instr{t, {Op: api.End}}
	}
	return m
}

func contextOf(m api.Module) api.Ctx {
	c, e := ctx.Of(m)
	if e != api.OK {
		panic(e)
	}
	return c
}

func world() api.Ctx { return contextOf(worldModule()) }

// numberOf a word: of a type with a colon, or as it is.
func numberOf(word string) int {
	if strings.Contains(word, ":") {
		return sigNumber(word)
	}
	n, err := strconv.Atoi(word)
	if err != nil {
		panic(word)
	}
	return n
}

// blockNumber of a block's words: of nothing, or of one value that comes out, it is below 0.
func blockNumber(words []string) int {
	if len(words) == 0 {
		return api.Empty
	}
	if n, ok := map[string]int{":i": -1, ":I": -2}[words[0]]; ok {
		return n
	}
	return numberOf(words[0])
}

func instrOf(words []string) api.Instr {
	op, ok := opOf[words[0]]
	if !ok {
		n, err := strconv.ParseInt(words[0], 16, 32)
		if err != nil {
			panic(words[0])
		}
		op = int(n)
	}
	if op == api.Block || op == api.Loop || op == api.If {
		return api.Instr{Op: op, A: blockNumber(words[1:])}
	}
	var l []int
	for _, w := range words[1:] {
		l = append(l, numberOf(w))
	}
	if op == api.BrTable {
		last := len(l) - 1
		return api.Instr{Op: op, L: l[:last:last], A: l[last]}
	}
	l = append(l, 0, 0)
	if op == api.Const32 || op == api.Const64 {
		return api.Instr{Op: op, K: int64(l[0])}
	}
	return api.Instr{Op: op, A: l[0], B: l[1]}
}

func bodyOf(text string) []api.Instr {
	var l []api.Instr
	for part := range strings.SplitSeq(text, ";") {
		if words := strings.Fields(part); len(words) > 0 {
			l = append(l, instrOf(words))
		}
	}
	return l
}

// funcOf parameters, a colon and results, further locals, and a text with its last end.
func funcOf(own, locals, text string) api.Func {
	return api.Func{Type: sigNumber(own), Locals: typesOf(locals), Body: bodyOf(text)}
}

func commas(l ...int) string {
	var words []string
	for _, n := range l {
		words = append(words, strconv.Itoa(n))
	}
	return strings.Join(words, ",")
}

func flatText(x api.Flat) string {
	s := wordOf(x.Op)
	for _, part := range []struct {
		mark string
		n    int64
	}{{" a", int64(x.A)}, {" b", int64(x.B)}, {" k", x.K}} {
		if part.n != 0 {
			s += part.mark + strconv.FormatInt(part.n, 10)
		}
	}
	for _, to := range x.To {
		s += " >" + commas(to.To, to.Keep, to.Height)
	}
	if x.Site != -1 {
		s += " #" + strconv.Itoa(x.Site)
	}
	return s
}

func flatsText(l []api.Flat) string {
	var words []string
	for _, x := range l {
		words = append(words, flatText(x))
	}
	return strings.Join(words, "; ")
}

func loopsText(l []api.Head) string {
	var words []string
	for _, h := range l {
		words = append(words, commas(h.At, h.Height, h.Own))
	}
	return strings.Join(words, "; ")
}

func sameCode(a, b api.Code) bool {
	return slices.Equal(a.Type.Params, b.Type.Params) && slices.Equal(a.Type.Results, b.Type.Results) &&
		slices.Equal(a.Locals, b.Locals) && slices.EqualFunc(a.Flat, b.Flat, sameFlat) &&
		slices.Equal(a.Loops, b.Loops) && a.Sites == b.Sites
}

func sameFlat(a, b api.Flat) bool {
	return a.Op == b.Op && a.A == b.A && a.B == b.B && a.K == b.K && a.Site == b.Site && slices.Equal(a.To, b.To)
}

// lowers a body of the world, of which all is told, without its last end.
func lowers(t *testing.T, own, locals, text, flat, loops string) {
	t.Helper()
	c, f := world(), funcOf(own, locals, text+"; end")
	x, e := lower.Lower(c, f)
	if e != api.OK {
		t.Errorf("%s, %s: %d", own, text, e)
		return
	}
	if got := flatsText(x.Flat); got != flat {
		t.Errorf("%s, %s:\n %s, want\n %s", own, text, got, flat)
	}
	if got := loopsText(x.Loops); got != loops {
		t.Errorf("%s, %s: loops %s, want %s", own, text, got, loops)
	}
	if sites := strings.Count(flat, "#"); x.Sites != sites {
		t.Errorf("%s, %s: %d sites, want %d", own, text, x.Sites, sites)
	}
	alike(t, c, f)
}

// alike: Lower answers what the model does; a body that isn't right has valid.Body's error. What
// holds of all flat code holds of it.
func alike(t *testing.T, c api.Ctx, f api.Func) api.Errno {
	t.Helper()
	x, e := lower.Lower(c, f)
	if want := valid.Body(c, f); e != want {
		t.Fatalf("Lower(%+v) = %d, want %d", f, e, want)
	}
	if e != api.OK {
		if !sameCode(x, api.Code{}) {
			t.Fatalf("Lower(%+v) = %+v beside %d", f, x, e)
		}
		return e
	}
	if want := modelLower(c, f); !sameCode(x, want) {
		t.Fatalf("Lower(%+v) = %+v, want %+v", f, x, want)
	}
	within(t, f, x)
	traced(t, c, f, x)
	return e
}

// within: P12.3.
func within(t *testing.T, f api.Func, x api.Code) {
	t.Helper()
	n := len(x.Flat)
	if n == 0 || n > len(f.Body) {
		t.Fatalf("%+v: %d instructions of %d", f, n, len(f.Body))
	}
	for _, y := range x.Flat {
		for _, to := range y.To {
			if to.To < 0 || to.To >= n || to.Keep < 0 || to.Height < 0 {
				t.Fatalf("%+v: %+v of %d", f, y, n)
			}
		}
	}
	for _, h := range x.Loops {
		if h.At < 0 || h.At >= n || h.Height < 0 || h.Own < 0 {
			t.Fatalf("%+v: %+v of %d", f, h, n)
		}
	}
}

package lower_test

import (
	"slices"
	"strings"

	"trammel/api"
)

// node is an instruction in a tree: a block has its parts (an if with an else two) in it.
type node struct {
	x     api.Instr
	parts [][]node
}

// tree of a body up to the end or else that ends this part of it; what is left behind that, and
// was it an else?
func tree(body []api.Instr) (part []node, rest []api.Instr, other bool) {
	for {
		x := body[0]
		body = body[1:]
		n := node{x: x}
		switch x.Op {
		case 0x05, 0x0b:
			return part, body, x.Op == 0x05
		case 0x02, 0x03, 0x04:
			for more := true; more; {
				var inner []node
				inner, body, more = tree(body)
				n.parts = append(n.parts, inner)
			}
		}
		part = append(part, n)
	}
}

// label is where a branch goes, by a name that is a number: of a block that of its own beginning
// or end.
type label struct{ name, keep, height int }

// model makes flat code part in part, with names instead of places, which are put in at the end.
type model struct {
	c     api.Ctx
	own   api.FuncType
	local []int
	flat  []api.Flat
	at    map[int]int // of each name its place
	loops []api.Head
	sites int
}

func modelLower(c api.Ctx, f api.Func) api.Code {
	t := c.Types[f.Type]
	m := &model{c: c, own: t, at: map[int]int{}}
	body, _, _ := tree(f.Body)
	out := m.name()
	m.part(body, 0, []label{{out, len(t.Results), 0}})
	m.here(out)
	m.put(api.Flat{Op: 0x0b})
	for _, x := range m.flat {
		for i := range x.To {
			x.To[i].To = m.at[x.To[i].To]
		}
	}
	locals := append(slices.Clone(t.Params), f.Locals...)
	return api.Code{Type: t, Locals: locals, Flat: m.flat, Loops: m.loops, Sites: m.sites}
}

// name that no place has yet.
func (m *model) name() int {
	n := len(m.at) + 1
	m.at[n] = -1
	return n
}

func (m *model) here(name int) { m.at[name] = len(m.flat) }

func (m *model) put(x api.Flat) {
	x.Site = -1
	if siteOf(x.Op) {
		x.Site = m.sites
		m.sites++
	}
	m.flat = append(m.flat, x)
}

// part of a block, with so many values on the stack at first; is its end dead?
func (m *model) part(l []node, height int, labels []label) bool {
	for _, n := range l {
		switch {
		case n.x.Op == 0x01:
			continue
		case n.parts != nil:
			height = m.block(n, height, labels)
			continue
		}
		y := api.Flat{Op: n.x.Op, A: n.x.A, B: n.x.B, K: n.x.K}
		switch n.x.Op {
		case 0x0e:
			for _, a := range n.x.L {
				y.To = append(y.To, target(labels[a]))
			}
			fallthrough
		case 0x0c, 0x0d:
			y.To = append(y.To, target(labels[n.x.A]))
		}
		m.put(y)
		if strings.ContainsRune("\x00\x0c\x0e\x0f", rune(n.x.Op)) {
			return true
		}
		in, out := m.counts(n.x)
		height += out - in
	}
	return false
}

func target(l label) api.Target { return api.Target{To: l.name, Keep: l.keep, Height: l.height} }

// block with its parts; how many values lie on the stack behind it.
func (m *model) block(n node, height int, labels []label) int {
	in, out := m.blockCounts(n.x.A)
	behind, other := m.name(), m.name()
	own := label{behind, out, 0}
	switch n.x.Op {
	case 0x03:
		own.name, own.keep = other, in
		m.here(other)
		m.loops = append(m.loops, api.Head{At: len(m.flat), Height: height - in, Own: in})
	case 0x04:
		height--
		m.put(api.Flat{Op: 0x201, To: []api.Target{{To: other}}})
	}
	own.height = height - in
	labels = append([]label{own}, labels...)
	dead := m.part(n.parts[0], height, labels)
	if len(n.parts) == 2 {
		if !dead {
			m.put(api.Flat{Op: 0x200, To: []api.Target{{To: behind}}})
		}
		m.here(other)
		m.part(n.parts[1], height, labels)
	}
	m.here(behind)
	if n.x.Op == 0x04 && len(n.parts) == 1 {
		m.here(other)
	}
	return height - in + out
}

func (m *model) blockCounts(n int) (in, out int) {
	switch n {
	case -64:
		return 0, 0
	case -1, -2:
		return 0, 1
	}
	return len(m.c.Types[n].Params), len(m.c.Types[n].Results)
}

// counts of what a right instruction takes and gives that is no branch that is always taken.
func (m *model) counts(x api.Instr) (in, out int) {
	switch x.Op {
	case 0x0d:
		return 1, 0
	case 0x10:
		return m.blockCounts(m.c.Funcs[x.A])
	case 0x11:
		in, out = m.blockCounts(x.A)
		return in + 1, out
	}
	into, gives, _ := strings.Cut(rowOf[x.Op].sig, ":")
	return len(into), len(gives)
}

// row of codes that take and give by what they are alone; x is a value of any type.
type row struct {
	from, to int
	sig      string
	site     bool
}

func rows() []row {
	return []row{
		{0x01, 0x01, ":", false}, {0x1a, 0x1a, "x:", false}, {0x1b, 0x1b, "xxi:x", false},
		{0x20, 0x20, ":x", false}, {0x21, 0x21, "x:", false}, {0x22, 0x22, "x:x", false}, {0x23, 0x23, ":x", false}, {0x24, 0x24, "x:", false},
		{0x28, 0x28, "i:i", true}, {0x29, 0x29, "i:I", true}, {0x2c, 0x2f, "i:i", true}, {0x30, 0x35, "i:I", true},
		{0x36, 0x36, "ii:", true}, {0x37, 0x37, "iI:", true}, {0x3a, 0x3b, "ii:", true}, {0x3c, 0x3e, "iI:", true},
		{0x3f, 0x3f, ":i", false}, {0x40, 0x40, "i:i", false}, {0x41, 0x41, ":i", false}, {0x42, 0x42, ":I", false},
		{0x45, 0x45, "i:i", false}, {0x46, 0x4f, "ii:i", false}, {0x50, 0x50, "I:i", false}, {0x51, 0x5a, "II:i", false},
		{0x67, 0x69, "i:i", false}, {0x6a, 0x78, "ii:i", false}, {0x79, 0x7b, "I:I", false}, {0x7c, 0x8a, "II:I", false},
		{0xa7, 0xa7, "I:i", false}, {0xac, 0xad, "i:I", false}, {0xc0, 0xc1, "i:i", false}, {0xc2, 0xc4, "I:I", false},
		{0x108, 0x108, "iii:", true}, {0x109, 0x109, ":", false}, {0x10a, 0x10c, "iii:", true}, {0x10d, 0x10d, ":", false}, {0x10e, 0x10e, "iii:", true},
	}
}

// rowOf each code that has one.
var rowOf = func() map[int]row {
	m := map[int]row{}
	for _, r := range rows() {
		for op := r.from; op <= r.to; op++ {
			m[op] = r
		}
	}
	return m
}()

func siteOf(op int) bool { return op == 0x11 || rowOf[op].site }

package valid

import (
	"strings"

	"trammel/api"
	"trammel/instr"
)

// model looks at a body block in block. Its stacks are texts, the top at the end: i, I, ? for a
// value of any type, and a * at the beginning below which there are as many of these as are needed.
type model struct {
	c      api.Ctx
	locals string
	gives  string
	body   []api.Instr
	at     int
}

func modelBody(c api.Ctx, f api.Func) api.Errno {
	if f.Type < 0 || f.Type >= len(c.Types) || !instr.Closed(f.Body) {
		return api.ErrForm
	}
	t := c.Types[f.Type]
	m := &model{c: c, locals: letters(t.Params) + letters(f.Locals), gives: letters(t.Results), body: f.Body}
	return m.part("", m.gives, []string{m.gives})
}

// pull what is needed from a stack: what stays, and what was there.
func pull(stack, need string) (rest, there string, ok bool) {
	for need != "" {
		if stack == "" {
			return "", "", false
		}
		want, top := need[len(need)-1], stack[len(stack)-1]
		need = need[:len(need)-1]
		if top == '*' {
			top = '?'
		} else {
			stack = stack[:len(stack)-1]
		}
		if want != top && want != '?' && top != '?' {
			return "", "", false
		}
		there = string(top) + there
	}
	return stack, there, true
}

// part of a body up to its end or else, with what lies on its stack at first and has to at last.
func (m *model) part(stack, last string, labels []string) api.Errno {
	for {
		x := m.body[m.at]
		m.at++
		if x.Op == 0x05 || x.Op == 0x0b {
			if rest, _, ok := pull(stack, last); !ok || rest != "" && rest != "*" {
				return api.ErrType
			}
			return api.OK
		}
		var e api.Errno
		if stack, e = m.step(x, stack, labels); e != api.OK {
			return e
		}
	}
}

func (m *model) step(x api.Instr, stack string, labels []string) (string, api.Errno) {
	if x.Op >= 0x02 && x.Op <= 0x04 {
		return m.inner(x, stack, labels)
	}
	need, give, e := m.row(x, labels)
	if e != api.OK {
		return "", e
	}
	rest, there, ok := pull(stack, need)
	if !ok {
		return "", api.ErrType
	}
	switch x.Op {
	case 0x0e:
		for _, n := range x.L {
			if l := labels[n]; len(l) != len(there)-1 || !fit(there, l) {
				return "", api.ErrType
			}
		}
	case 0x1b:
		a, b := there[:1], there[1:2]
		switch {
		case a == "?":
			give = b
		case b == "?" || a == b:
			give = a
		default:
			return "", api.ErrType
		}
	}
	if strings.ContainsRune("\x00\x0c\x0e\x0f", rune(x.Op)) {
		rest = "*"
	}
	return rest + give, api.OK
}

func fit(there, l string) bool {
	_, _, ok := pull(there, l+"i")
	return ok
}

func (m *model) inner(x api.Instr, stack string, labels []string) (string, api.Errno) {
	into, out, ok := m.sig(x.A)
	if !ok {
		return "", api.ErrIndex
	}
	need, label := into, out
	if x.Op == 0x04 {
		need += "i"
	}
	if x.Op == 0x03 {
		label = into
	}
	rest, _, ok := pull(stack, need)
	if !ok {
		return "", api.ErrType
	}
	within := append([]string{label}, labels...)
	if e := m.part(into, out, within); e != api.OK {
		return "", e
	}
	if m.body[m.at-1].Op == 0x05 {
		if e := m.part(into, out, within); e != api.OK {
			return "", e
		}
	} else if x.Op == 0x04 && into != out {
		return "", api.ErrType
	}
	return rest + out, api.OK
}

// sig of a block's type.
func (m *model) sig(n int) (into, out string, ok bool) {
	switch {
	case n >= 0 && n < len(m.c.Types):
		return letters(m.c.Types[n].Params), letters(m.c.Types[n].Results), true
	case n < 0:
		return "", map[int]string{-1: "i", -2: "I"}[n], true
	}
	return "", "", false
}

// row of the chapter's table: what is needed and given, or what isn't right of the names.
func (m *model) row(x api.Instr, labels []string) (need, give string, e api.Errno) {
	if !m.there(x, len(labels)) {
		return "", "", api.ErrIndex
	}
	switch x.Op {
	case 0x0c:
		return labels[x.A], "", api.OK
	case 0x0d:
		return labels[x.A] + "i", labels[x.A], api.OK
	case 0x0e:
		return labels[x.A] + "i", "", api.OK
	case 0x0f:
		return m.gives, "", api.OK
	case 0x10, 0x11:
		n := x.A
		if x.Op == 0x10 {
			n = m.c.Funcs[n]
		}
		into, out, _ := m.sig(n)
		return into + strings.Repeat("i", x.Op-0x10), out, api.OK
	case 0x20, 0x21, 0x22:
		own := m.locals[x.A : x.A+1]
		return map[int]string{0x21: own, 0x22: own}[x.Op], map[int]string{0x20: own, 0x22: own}[x.Op], api.OK
	case 0x23, 0x24:
		own := letters([]int{m.c.Globals[x.A].Type})
		if x.Op == 0x23 {
			return "", own, api.OK
		}
		if !m.c.Globals[x.A].Mutable {
			return "", "", api.ErrArg
		}
		return own, "", api.OK
	}
	into, out, _ := strings.Cut(rowOf[x.Op], ":")
	if most, is := mostOf[x.Op]; is && x.A > most {
		return "", "", api.ErrArg
	}
	return into, out, api.OK
}

// there: is all that an instruction names?
func (m *model) there(x api.Instr, labels int) bool {
	one := func(n, many int) bool { return n < many }
	c := m.c
	switch x.Op {
	case 0x0c, 0x0d:
		return one(x.A, labels)
	case 0x0e:
		for _, n := range x.L {
			if !one(n, labels) {
				return false
			}
		}
		return one(x.A, labels)
	case 0x10:
		return one(x.A, len(c.Funcs)) && c.Funcs[x.A] >= 0 && one(c.Funcs[x.A], len(c.Types))
	case 0x11:
		return one(x.A, len(c.Types)) && one(x.B, len(c.Tables))
	case 0x20, 0x21, 0x22:
		return one(x.A, len(m.locals))
	case 0x23, 0x24:
		return one(x.A, len(c.Globals))
	case 0x3f, 0x40, 0x10a, 0x10b:
		return len(c.Mems) > 0
	case 0x108:
		return len(c.Mems) > 0 && one(x.A, c.Datas) && c.Counted
	case 0x109:
		return one(x.A, c.Datas) && c.Counted
	case 0x10c:
		return one(x.A, c.Elems) && one(x.B, len(c.Tables))
	case 0x10d:
		return one(x.A, c.Elems)
	case 0x10e:
		return one(x.A, len(c.Tables)) && one(x.B, len(c.Tables))
	}
	_, access := mostOf[x.Op]
	return !access || len(c.Mems) > 0
}

var rowOf, mostOf = rows(), mosts()

// rows that hang on nothing but the code.
func rows() map[int]string {
	m := map[int]string{
		0x00: ":", 0x01: ":", 0x1a: "?:", 0x1b: "??i:", 0x3f: ":i", 0x40: "i:i", 0x41: ":i", 0x42: ":I",
		0x108: "iii:", 0x109: ":", 0x10a: "iii:", 0x10b: "iii:", 0x10c: "iii:", 0x10d: ":", 0x10e: "iii:",
		0x45: "i:i", 0x50: "I:i", 0xa7: "I:i", 0xac: "i:I", 0xad: "i:I", 0xc0: "i:i", 0xc1: "i:i", 0xc2: "I:I", 0xc3: "I:I", 0xc4: "I:I",
		0x28: "i:i", 0x29: "i:I", 0x36: "ii:", 0x37: "iI:", 0x3a: "ii:", 0x3b: "ii:", 0x3c: "iI:", 0x3d: "iI:", 0x3e: "iI:",
	}
	for _, x := range []struct {
		from, to int
		row      string
	}{
		{0x2c, 0x2f, "i:i"}, {0x30, 0x35, "i:I"},
		{0x46, 0x4f, "ii:i"}, {0x51, 0x5a, "II:i"}, {0x67, 0x69, "i:i"}, {0x6a, 0x78, "ii:i"}, {0x79, 0x7b, "I:I"}, {0x7c, 0x8a, "II:I"},
	} {
		for op := x.from; op <= x.to; op++ {
			m[op] = x.row
		}
	}
	return m
}

// mosts are the greatest A of each access.
func mosts() map[int]int {
	return map[int]int{
		0x28: 2, 0x29: 3, 0x2c: 0, 0x2d: 0, 0x2e: 1, 0x2f: 1, 0x30: 0, 0x31: 0, 0x32: 1, 0x33: 1, 0x34: 2, 0x35: 2,
		0x36: 2, 0x37: 3, 0x3a: 0, 0x3b: 1, 0x3c: 0, 0x3d: 1, 0x3e: 2,
	}
}

package load

import (
	"slices"

	"trammel/api"
	"trammel/leb"
	"trammel/pack"
	"trammel/utf"
)

// speller lays a right module as bytes. With chance it says the same otherwise: numbers in longer
// forms, lists of nothing as sections, locals in more pairs, segments in other forms.
type speller struct {
	c *chance
	b []byte
}

func spell(m api.Module, c *chance) []byte {
	s := &speller{c: c, b: begin()}
	section(s, 1, m.Types, (*speller).funcType)
	section(s, 2, m.Imports, (*speller).imported)
	section(s, 3, m.Funcs, func(s *speller, f api.Func) { s.u(f.Type) })
	section(s, 4, m.Tables, (*speller).table)
	section(s, 5, m.Mems, (*speller).limits)
	section(s, 6, m.Globals, (*speller).global)
	section(s, 7, m.Exports, (*speller).exported)
	s.single(8, m.Starts)
	section(s, 9, m.Elems, (*speller).elem)
	s.single(12, m.Counts)
	section(s, 10, m.Funcs, (*speller).code)
	section(s, 11, m.Datas, (*speller).data)
	for _, x := range m.Customs {
		inner := s.inner()
		inner.name(x.Name)
		s.section(0, append(inner.b, x.Bytes...))
	}
	return s.b
}

// maybe: is it to be said otherwise here?
func (s *speller) maybe() bool { return s.c != nil && s.c.below(3) == 0 }

func (s *speller) inner() *speller { return &speller{c: s.c} }

func (s *speller) add(b ...byte) { s.b = append(s.b, b...) }

// number that was laid in the fewest bytes, up to so many, of which the last one says the sign.
func (s *speller) number(b []byte, most int, sign byte) {
	for s.maybe() && len(b) < most {
		b[len(b)-1] |= 0x80
		b = append(b, sign)
	}
	s.add(b...)
}

func (s *speller) u(n int) { s.number(leb.PutU(nil, uint64(n)), 5, 0) }

func (s *speller) signed(n int64, bits int) {
	sign := byte(0)
	if n < 0 {
		sign = 0x7f
	}
	s.number(leb.PutS(nil, n), (bits+6)/7, sign)
}

func (s *speller) sized(b []byte) {
	s.u(len(b))
	s.add(b...)
}

func (s *speller) section(id byte, b []byte) {
	s.add(id)
	s.sized(b)
}

func section[T any](s *speller, id byte, l []T, one func(*speller, T)) {
	if len(l) == 0 && !s.maybe() {
		return
	}
	inner := s.inner()
	list(inner, l, one)
	s.section(id, inner.b)
}

func list[T any](s *speller, l []T, one func(*speller, T)) {
	s.u(len(l))
	for _, x := range l {
		one(s, x)
	}
}

func (s *speller) single(id byte, l []int) {
	if len(l) > 0 {
		inner := s.inner()
		inner.u(l[0])
		s.section(id, inner.b)
	}
}

func (s *speller) name(n string) {
	b, _ := utf.PutName(nil, n)
	s.u(len(n))
	s.add(b[1:]...)
}

func (s *speller) val(t int) { s.add(byte(t)) }

func (s *speller) flag(set bool) {
	if set {
		s.add(1)
	} else {
		s.add(0)
	}
}

func (s *speller) funcType(t api.FuncType) {
	s.add(0x60)
	list(s, t.Params, (*speller).val)
	list(s, t.Results, (*speller).val)
}

func (s *speller) limits(l api.Limits) {
	s.flag(l.Capped)
	s.u(l.Min)
	if l.Capped {
		s.u(l.Max)
	}
}

func (s *speller) table(l api.Limits) {
	s.add(0x70)
	s.limits(l)
}

func (s *speller) imported(x api.Import) {
	s.name(x.Module)
	s.name(x.Name)
	s.add(byte(x.Kind))
	switch x.Kind {
	case 0:
		s.u(x.Type)
	case 1:
		s.table(x.Limits)
	case 2:
		s.limits(x.Limits)
	case 3:
		s.val(x.Type)
		s.flag(x.Mutable)
	}
}

func (s *speller) global(x api.Global) {
	s.val(x.Type)
	s.flag(x.Mutable)
	s.body(x.Init)
}

func (s *speller) exported(x api.Export) {
	s.name(x.Name)
	s.add(byte(x.Kind))
	s.u(x.Index)
}

// elem: the forms from 4 on say functions as entries, 2 and 6 name the table 0.
func (s *speller) elem(x api.Elem) {
	form := []int{0, 1, 3}[x.Mode]
	if x.Mode == api.Active && s.maybe() {
		form = 2
	}
	if slices.Contains(x.Funcs, -1) || s.maybe() {
		form += 4
	}
	s.u(form)
	if form&3 == 2 {
		s.u(0)
	}
	if x.Mode == api.Active {
		s.body(x.Offset)
	}
	if form < 4 {
		if form > 0 {
			s.add(0)
		}
		list(s, x.Funcs, (*speller).u)
		return
	}
	if form > 4 {
		s.add(0x70)
	}
	list(s, x.Funcs, (*speller).entry)
}

func (s *speller) entry(f int) {
	if f < 0 {
		s.add(0xd0, 0x70, 0x0b)
		return
	}
	s.add(0xd2)
	s.u(f)
	s.add(0x0b)
}

func (s *speller) code(f api.Func) {
	inner := s.inner()
	list(inner, inner.pairs(f.Locals), func(s *speller, x [2]int) {
		s.u(x[0])
		s.val(x[1])
	})
	inner.body(f.Body)
	s.sized(inner.b)
}

// pairs of how many, and a type; of none, too, and of one type behind one another.
func (s *speller) pairs(l []int) [][2]int {
	var out [][2]int
	for _, t := range l {
		for s.maybe() {
			out = append(out, [2]int{0, s.c.val()})
		}
		if last := len(out) - 1; last >= 0 && out[last][1] == t && !s.maybe() {
			out[last][0]++
		} else {
			out = append(out, [2]int{1, t})
		}
	}
	return out
}

func (s *speller) data(x api.Data) {
	switch {
	case x.Mode == api.Passive:
		s.u(1)
	case s.maybe():
		s.u(2)
		s.u(0)
	default:
		s.u(0)
	}
	if x.Mode == api.Active {
		s.body(x.Offset)
	}
	s.sized(x.Bytes)
}

func (s *speller) body(l []api.Instr) {
	for _, x := range l {
		s.instr(x)
	}
}

func (s *speller) instr(x api.Instr) {
	if x.Op < 0x100 {
		s.add(byte(x.Op))
	} else {
		s.add(0xfc)
		s.u(x.Op - 0x100)
	}
	switch x.Op {
	case 0x02, 0x03, 0x04:
		s.blockType(x.A)
	case 0x0c, 0x0d, 0x10, 0x20, 0x21, 0x22, 0x23, 0x24, 0x109, 0x10d:
		s.u(x.A)
	case 0x0e:
		list(s, x.L, (*speller).u)
		s.u(x.A)
	case 0x11, 0x10c, 0x10e:
		s.u(x.A)
		s.u(x.B)
	case 0x3f, 0x40, 0x10b:
		s.add(0)
	case 0x10a:
		s.add(0, 0)
	case 0x108:
		s.u(x.A)
		s.add(0)
	case 0x41:
		s.signed(x.K, 32)
	case 0x42:
		s.signed(x.K, 64)
	default:
		if _, _, _, access := pack.Access(x.Op); access {
			s.u(x.A)
			s.u(x.B)
		}
	}
}

// blockType: only a number has longer forms.
func (s *speller) blockType(t int) {
	if t < 0 {
		s.add(byte(t & 0x7f))
	} else {
		s.signed(int64(t), 33)
	}
}

// modelCtx is what a right module's bodies may name.
func modelCtx(m api.Module) api.Ctx {
	c := api.Ctx{Types: m.Types, Elems: len(m.Elems), Datas: len(m.Datas), Counted: len(m.Counts) == 1}
	for _, x := range m.Imports {
		switch x.Kind {
		case 0:
			c.Funcs = append(c.Funcs, x.Type)
			c.Hosts++
		case 1:
			c.Tables = append(c.Tables, x.Limits)
		case 2:
			c.Mems = append(c.Mems, x.Limits)
		case 3:
			c.Globals = append(c.Globals, api.Var{Type: x.Type, Mutable: x.Mutable})
			c.Vars++
		}
	}
	for _, f := range m.Funcs {
		c.Funcs = append(c.Funcs, f.Type)
	}
	for _, x := range m.Globals {
		c.Globals = append(c.Globals, api.Var{Type: x.Type, Mutable: x.Mutable})
	}
	c.Tables, c.Mems = slices.Concat(c.Tables, m.Tables), slices.Concat(c.Mems, m.Mems)
	return c
}

package mod

import (
	"bytes"
	"slices"

	"trammel/api"
	"trammel/instr"
	"trammel/sect"
)

// decode a section into what the ones ahead of it said.
func decode(m *api.Module, s sect.Sect) api.Errno {
	r := &reader{b: s.B}
	switch s.ID {
	case customs:
		m.Customs = append(m.Customs, read(r, custom))
	case types:
		m.Types = list(r, (*reader).funcType)
	case imports:
		m.Imports = list(r, (*reader).imported)
	case funcs:
		m.Funcs = list(r, (*reader).function)
	case tables:
		m.Tables = list(r, (*reader).table)
	case mems:
		m.Mems = list(r, (*reader).limits)
	case globals:
		m.Globals = list(r, (*reader).global)
	case exports:
		m.Exports = list(r, (*reader).exported)
	case starts:
		m.Starts = []int{r.number()}
	case elems:
		m.Elems = list(r, (*reader).elem)
	case counts:
		m.Counts = []int{r.number()}
	case codes:
		r.codes(m.Funcs)
	case datas:
		m.Datas = r.datas(m.Counts)
	}
	r.end()
	return r.e
}

// custom takes all of a section's bytes.
func custom(b []byte) (api.Custom, int, api.Errno) {
	c, e := sect.Custom(b)
	return c, len(b), e
}

func (r *reader) imported() api.Import {
	x := api.Import{Module: r.name(), Name: r.name(), Kind: r.upTo(api.Glo)}
	switch x.Kind {
	case api.Fn:
		x.Type = r.number()
	case api.Tab:
		x.Limits = r.table()
	case api.Mem:
		x.Limits = r.limits()
	case api.Glo:
		x.Type = r.val()
		x.Mutable = r.flag()
	}
	return x
}

// function reads the type alone: the rest stands in another section.
func (r *reader) function() api.Func { return api.Func{Type: r.number()} }

func (r *reader) table() api.Limits {
	r.functions()
	return r.limits()
}

func (r *reader) body() []api.Instr { return read(r, instr.Body) }

func (r *reader) global() api.Global {
	return api.Global{Type: r.val(), Mutable: r.flag(), Init: r.body()}
}

func (r *reader) exported() api.Export {
	return api.Export{Name: r.name(), Kind: r.upTo(api.Glo), Index: r.number()}
}

func (r *reader) elem() api.Elem {
	form := r.number()
	if form >= forms {
		r.fail(api.ErrForm)
		return api.Elem{}
	}
	x := api.Elem{Mode: modeOf(form)}
	if form&(aside|further) == further {
		r.only()
	}
	if x.Mode == api.Active {
		x.Offset = r.body()
	}
	if form&(aside|further) != 0 {
		r.held(form)
	}
	if form&entries == 0 {
		x.Funcs = list(r, (*reader).number)
	} else {
		x.Funcs = list(r, (*reader).entry)
	}
	return x
}

func modeOf(form int) int {
	switch form & (aside | further) {
	case aside:
		return api.Passive
	case aside | further:
		return api.Declared
	}
	return api.Active
}

// held reads of what kind a segment's things are.
func (r *reader) held(form int) {
	if form&entries == 0 {
		r.must(0)
	} else {
		r.functions()
	}
}

// entry is an expression of one instruction that gives a function, or none.
func (r *reader) entry() int {
	f := none
	switch r.byte() {
	case entry:
		f = r.number()
	case noEntry:
		r.functions()
	default:
		r.fail(api.ErrWide)
	}
	r.must(api.End)
	return f
}

// codes belong to functions whose types are known, and are as many.
func (r *reader) codes(l []api.Func) {
	if r.number() != len(l) {
		r.fail(api.ErrForm)
	}
	for i := range l {
		r.code(&l[i])
	}
}

func (r *reader) code(f *api.Func) {
	inner := &reader{b: r.take(r.number())}
	f.Locals = inner.locals()
	f.Body = inner.body()
	inner.end()
	r.fail(inner.e)
}

// locals are said in pairs, of which there may be any number, since a pair may say none.
func (r *reader) locals() []int {
	var l []int
	for pairs := r.number(); pairs > 0 && r.e == api.OK; pairs-- {
		count := r.number()
		if count > api.MaxLocals-len(l) {
			r.fail(api.ErrLong)
			return nil
		}
		l = append(l, slices.Repeat([]int{r.val()}, count)...)
	}
	return l
}

// datas are as many as was counted, if it was.
func (r *reader) datas(count []int) []api.Data {
	n := r.number()
	if len(count) > 0 && n != count[0] {
		r.fail(api.ErrForm)
	}
	return things(r, n, (*reader).data)
}

func (r *reader) data() api.Data {
	var x api.Data
	switch r.number() {
	case 0:
		x.Offset = r.body()
	case 1:
		x.Mode = api.Passive
	case 2:
		r.only()
		x.Offset = r.body()
	default:
		r.fail(api.ErrForm)
	}
	x.Bytes = bytes.Clone(r.take(r.number()))
	return x
}

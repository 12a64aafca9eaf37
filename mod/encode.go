package mod

import (
	"slices"

	"trammel/api"
	"trammel/instr"
	"trammel/sect"
)

// sections are what of a module is put already.
type sections struct {
	list []sect.Sect
	e    api.Errno
}

// encode a module's sections, in the order in which they stand.
func encode(m api.Module) ([]sect.Sect, api.Errno) {
	var k sections
	putSection(&k, types, m.Types, (*writer).funcType)
	putSection(&k, imports, m.Imports, (*writer).imported)
	putSection(&k, funcs, m.Funcs, (*writer).function)
	putSection(&k, tables, m.Tables, (*writer).table)
	putSection(&k, mems, m.Mems, (*writer).limits)
	putSection(&k, globals, m.Globals, (*writer).global)
	putSection(&k, exports, m.Exports, (*writer).exported)
	k.number(starts, m.Starts)
	putSection(&k, elems, m.Elems, (*writer).elem)
	k.number(counts, m.Counts)
	putSection(&k, codes, m.Funcs, (*writer).code)
	putSection(&k, datas, m.Datas, (*writer).data)
	for _, c := range m.Customs {
		k.custom(c)
	}
	return k.list, k.e
}

func (k *sections) add(id int, w writer) {
	k.e = first(k.e, w.e)
	k.list = append(k.list, sect.Sect{ID: id, B: w.b})
}

// putSection puts a list, whatever it holds. An empty one has no section.
func putSection[T any](k *sections, id int, l []T, one func(*writer, T)) {
	if len(l) == 0 {
		return
	}
	var w writer
	putList(&w, l, one)
	k.add(id, w)
}

// number puts a section of one number, if there is one.
func (k *sections) number(id int, l []int) {
	if len(l) == 0 {
		return
	}
	var w writer
	w.number(l[0])
	if len(l) > 1 {
		w.fail(api.ErrForm)
	}
	k.add(id, w)
}

func (k *sections) custom(c api.Custom) {
	var w writer
	b, e := sect.PutCustom(c)
	if e != api.OK {
		w.fail(api.ErrForm)
	}
	w.raw(b...)
	k.add(customs, w)
}

// imported puts what its kind has, and nothing else may be said.
func (w *writer) imported(x api.Import) {
	w.name(x.Module)
	w.name(x.Name)
	w.upTo(x.Kind, api.Glo)
	said := api.Import{Module: x.Module, Name: x.Name, Kind: x.Kind}
	switch x.Kind {
	case api.Fn:
		said.Type = x.Type
		w.number(x.Type)
	case api.Tab:
		said.Limits = x.Limits
		w.table(x.Limits)
	case api.Mem:
		said.Limits = x.Limits
		w.limits(x.Limits)
	case api.Glo:
		said.Type, said.Mutable = x.Type, x.Mutable
		w.val(x.Type)
		w.flag(x.Mutable)
	}
	if x != said {
		w.fail(api.ErrForm)
	}
}

// function puts the type alone: the rest stands in another section.
func (w *writer) function(f api.Func) { w.number(f.Type) }

func (w *writer) table(l api.Limits) {
	w.raw(functions)
	w.limits(l)
}

func (w *writer) body(l []api.Instr) { put(w, instr.PutBody, l) }

func (w *writer) global(x api.Global) {
	w.val(x.Type)
	w.flag(x.Mutable)
	w.body(x.Init)
}

func (w *writer) exported(x api.Export) {
	w.name(x.Name)
	w.upTo(x.Kind, api.Glo)
	w.number(x.Index)
}

// elem is put as entries only where there is a function that no number says.
func (w *writer) elem(x api.Elem) {
	form := w.formOf(x.Mode)
	if !slices.Contains(x.Funcs, none) {
		w.number(form)
		w.offset(x.Mode, x.Offset)
		if x.Mode != api.Active {
			w.raw(0)
		}
		putList(w, x.Funcs, (*writer).number)
		return
	}
	w.number(form | entries)
	w.offset(x.Mode, x.Offset)
	if x.Mode != api.Active {
		w.raw(functions)
	}
	putList(w, x.Funcs, (*writer).entry)
}

func (w *writer) formOf(mode int) int {
	switch mode {
	case api.Active:
	case api.Passive:
		return aside
	case api.Declared:
		return aside | further
	default:
		w.fail(api.ErrForm)
	}
	return 0
}

// offset of what is laid at once. Of anything else there is none.
func (w *writer) offset(mode int, l []api.Instr) {
	if mode == api.Active {
		w.body(l)
	} else if len(l) > 0 {
		w.fail(api.ErrForm)
	}
}

func (w *writer) entry(f int) {
	if f == none {
		w.raw(noEntry, functions)
	} else {
		w.raw(entry)
		w.number(f)
	}
	w.raw(api.End)
}

func (w *writer) code(f api.Func) {
	var inner writer
	inner.locals(f.Locals)
	inner.body(f.Body)
	w.fail(inner.e)
	w.bytes(inner.b)
}

// run is locals of one type that stand behind one another.
type run struct{ count, val int }

func (w *writer) locals(l []int) {
	if len(l) > api.MaxLocals {
		w.fail(api.ErrForm)
		return
	}
	putList(w, runs(l), (*writer).run)
}

func runs(l []int) []run {
	var out []run
	for i, v := range l {
		if i == 0 || v != l[i-1] {
			out = append(out, run{val: v})
		}
		out[len(out)-1].count++
	}
	return out
}

func (w *writer) run(x run) {
	w.number(x.count)
	w.val(x.val)
}

// data has a mode that is its form.
func (w *writer) data(x api.Data) {
	w.upTo(x.Mode, api.Passive)
	w.offset(x.Mode, x.Offset)
	w.bytes(x.Bytes)
}

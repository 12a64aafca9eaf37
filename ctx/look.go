package ctx

import (
	"math"

	"trammel/api"
)

const (
	mostPages = 1 << 16 // pages of a memory that 32 bits can name
	none      = -1      // of an element segment: no function
)

// looker looks at a module's parts, each by itself, knowing what may be named.
type looker struct{ c api.Ctx }

// look at a module's parts. What is wrong with one kind doesn't hinder looking at the next, so
// that all are looked at, and the first error is told.
func look(c api.Ctx, m api.Module) api.Errno {
	k := looker{c}
	return first(
		each(m.Imports, k.imported),
		each(m.Funcs, k.typed),
		each(m.Tables, table),
		each(m.Mems, memory),
		k.single(),
		each(m.Globals, k.global),
		k.exports(m.Exports),
		each(m.Starts, k.start),
		each(m.Elems, k.elem),
		each(m.Datas, k.data),
		each(m.Funcs, k.locals),
	)
}

func first(l ...api.Errno) api.Errno {
	for _, e := range l {
		if e != api.OK {
			return e
		}
	}
	return api.OK
}

// each thing of a list is looked at, up to the first error.
func each[T any](l []T, one func(T) api.Errno) api.Errno {
	for _, x := range l {
		if e := one(x); e != api.OK {
			return e
		}
	}
	return api.OK
}

func (k looker) imported(x api.Import) api.Errno {
	switch x.Kind {
	case api.Fn:
		return k.typeOf(x.Type)
	case api.Tab:
		return table(x.Limits)
	case api.Mem:
		return memory(x.Limits)
	}
	return api.OK
}

func (k looker) typed(f api.Func) api.Errno { return k.typeOf(f.Type) }

func (k looker) typeOf(t int) api.Errno {
	if !there(t, len(k.c.Types)) {
		return api.ErrIndex
	}
	return api.OK
}

func table(l api.Limits) api.Errno { return bounds(l, math.MaxInt, api.MaxTable) }

func memory(l api.Limits) api.Errno { return bounds(l, mostPages, api.MaxPages) }

// bounds: neither end may be above the greatest; and a least above so many is not done here.
func bounds(l api.Limits, greatest, done int) api.Errno {
	if l.Min < 0 || l.Min > greatest || l.Capped && (l.Max > greatest || l.Max < l.Min) {
		return api.ErrArg
	}
	if l.Min > done {
		return api.ErrLong
	}
	return api.OK
}

// single: a module has one table and one memory at most.
func (k looker) single() api.Errno {
	if len(k.c.Tables) > 1 {
		return api.ErrWide
	}
	if len(k.c.Mems) > 1 {
		return api.ErrTwice
	}
	return api.OK
}

func (k looker) global(x api.Global) api.Errno {
	if !Constant(k.c, x.Init, x.Type) {
		return api.ErrType
	}
	return api.OK
}

func (k looker) exports(l []api.Export) api.Errno {
	ahead := map[string]struct{}{}
	for _, x := range l {
		if _, twice := ahead[x.Name]; twice {
			return api.ErrTwice
		}
		ahead[x.Name] = struct{}{}
		if !there(x.Index, k.many(x.Kind)) {
			return api.ErrIndex
		}
	}
	return api.OK
}

// many things there are of a kind of exports.
func (k looker) many(kind int) int {
	switch kind {
	case api.Fn:
		return len(k.c.Funcs)
	case api.Tab:
		return len(k.c.Tables)
	case api.Mem:
		return len(k.c.Mems)
	case api.Glo:
		return len(k.c.Globals)
	}
	return 0
}

func (k looker) start(f int) api.Errno {
	t, ok := Type(k.c, f)
	if !ok {
		return api.ErrIndex
	}
	if len(t.Params) > 0 || len(t.Results) > 0 {
		return api.ErrType
	}
	return api.OK
}

func (k looker) elem(x api.Elem) api.Errno {
	return first(k.laid(x.Mode, x.Offset, k.c.Tables), each(x.Funcs, k.entry))
}

func (k looker) entry(f int) api.Errno {
	if f != none && !there(f, len(k.c.Funcs)) {
		return api.ErrIndex
	}
	return api.OK
}

func (k looker) data(x api.Data) api.Errno { return k.laid(x.Mode, x.Offset, k.c.Mems) }

// laid: what is laid at once needs something into which it is laid, and a place there.
func (k looker) laid(mode int, offset []api.Instr, into []api.Limits) api.Errno {
	if mode != api.Active {
		return api.OK
	}
	if len(into) == 0 {
		return api.ErrIndex
	}
	if !Constant(k.c, offset, api.I32) {
		return api.ErrType
	}
	return api.OK
}

// locals of a function without a type are not counted: its type was told already.
func (k looker) locals(f api.Func) api.Errno {
	t, _ := numbered(k.c, f.Type)
	if len(t.Params)+len(f.Locals) > api.MaxLocals {
		return api.ErrLong
	}
	return api.OK
}

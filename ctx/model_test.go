package ctx

import (
	"cmp"
	"slices"

	"trammel/api"
)

// fault is an error of a module: of which kind, of which thing in this kind's list, and which of
// the errors that the chapter names for one thing.
type fault struct {
	kind, place, rank int
	e                 api.Errno
}

// model gathers all faults of a module, in whatever order, and tells the least. It shares no step
// with the package.
type model struct {
	m      api.Module
	faults []fault
}

func (d *model) add(wrong bool, kind, place, rank int, e api.Errno) {
	if wrong {
		d.faults = append(d.faults, fault{kind, place, rank, e})
	}
}

func modelOf(m api.Module) (api.Ctx, api.Errno) {
	c, f := modelFault(m)
	return c, f.e
}

func modelFault(m api.Module) (api.Ctx, fault) {
	d := &model{m: m}
	d.laid()
	d.seen()
	d.limits()
	d.types()
	if len(d.faults) == 0 {
		return modelCtx(m), fault{}
	}
	return api.Ctx{}, slices.MinFunc(d.faults, func(a, b fault) int {
		return cmp.Or(a.kind-b.kind, a.place-b.place, a.rank-b.rank)
	})
}

func modelCtx(m api.Module) api.Ctx {
	c := api.Ctx{Types: m.Types, Elems: len(m.Elems), Datas: len(m.Datas), Counted: len(m.Counts) != 0}
	for _, x := range m.Imports {
		if x.Kind == 0 {
			c.Funcs = append(c.Funcs, x.Type)
			c.Hosts++
		}
		if x.Kind == 3 {
			c.Globals = append(c.Globals, api.Var{Type: x.Type, Mutable: x.Mutable})
			c.Vars++
		}
	}
	for _, f := range m.Funcs {
		c.Funcs = append(c.Funcs, f.Type)
	}
	for _, x := range m.Globals {
		c.Globals = append(c.Globals, api.Var{Type: x.Type, Mutable: x.Mutable})
	}
	c.Tables = slices.Concat(importedLimits(m, 1), m.Tables)
	c.Mems = slices.Concat(importedLimits(m, 2), m.Mems)
	return c
}

func importedLimits(m api.Module, kind int) []api.Limits {
	var l []api.Limits
	for _, x := range m.Imports {
		if x.Kind == kind {
			l = append(l, x.Limits)
		}
	}
	return l
}

func imports(m api.Module, kind int) int {
	n := 0
	for _, x := range m.Imports {
		if x.Kind == kind {
			n++
		}
	}
	return n
}

// many things of a kind there are.
func many(m api.Module, kind int) int {
	own := map[int]int{0: len(m.Funcs), 1: len(m.Tables), 2: len(m.Mems), 3: len(m.Globals)}
	if _, is := own[kind]; !is {
		return 0
	}
	return imports(m, kind) + own[kind]
}

func (d *model) types() {
	none := func(t int) bool { return t < 0 || t > len(d.m.Types)-1 }
	for i, x := range d.m.Imports {
		d.add(x.Kind == 0 && none(x.Type), 1, i, 0, api.ErrIndex)
	}
	for i, f := range d.m.Funcs {
		d.add(none(f.Type), 2, i, 0, api.ErrIndex)
		if !none(f.Type) {
			d.add(len(d.m.Types[f.Type].Params)+len(f.Locals) >= 65, 11, i, 0, api.ErrLong)
		}
	}
}

func (d *model) limits() {
	table := func(l api.Limits, kind, i int) {
		d.add(l.Min < 0 || l.Capped && l.Max < l.Min, kind, i, 0, api.ErrArg)
		d.add(l.Min >= 65, kind, i, 1, api.ErrLong)
	}
	memory := func(l api.Limits, kind, i int) {
		d.add(l.Min < 0 || l.Min > 65536 || l.Capped && l.Max > 65536 || l.Capped && l.Max < l.Min, kind, i, 0, api.ErrArg)
		d.add(l.Min >= 5, kind, i, 1, api.ErrLong)
	}
	for i, x := range d.m.Imports {
		switch x.Kind {
		case 1:
			table(x.Limits, 1, i)
		case 2:
			memory(x.Limits, 1, i)
		}
	}
	for i, l := range d.m.Tables {
		table(l, 3, i)
	}
	for i, l := range d.m.Mems {
		memory(l, 4, i)
	}
	d.add(many(d.m, 1) >= 2, 5, 0, 0, api.ErrWide)
	d.add(many(d.m, 2) >= 2, 5, 0, 1, api.ErrTwice)
}

func (d *model) seen() {
	for i, x := range d.m.Exports {
		for j, y := range d.m.Exports {
			d.add(j < i && x.Name == y.Name, 7, i, 0, api.ErrTwice)
		}
		d.add(x.Index < 0 || x.Index >= many(d.m, x.Kind), 7, i, 1, api.ErrIndex)
	}
	for i, s := range d.m.Starts {
		d.add(s < 0 || s >= many(d.m, 0), 8, i, 0, api.ErrIndex)
		c := modelCtx(d.m)
		if s >= 0 && s < len(c.Funcs) {
			t := c.Funcs[s]
			d.add(t >= 0 && t < len(c.Types) && len(c.Types[t].Params)+len(c.Types[t].Results) != 0, 8, i, 1, api.ErrType)
		}
	}
}

func (d *model) laid() {
	c := modelCtx(d.m)
	for i, x := range d.m.Globals {
		d.add(!modelConstant(c, x.Init, x.Type), 6, i, 0, api.ErrType)
	}
	for i, x := range d.m.Elems {
		if x.Mode == 0 {
			d.add(many(d.m, 1) == 0, 9, i, 0, api.ErrIndex)
			d.add(!modelConstant(c, x.Offset, 0x7f), 9, i, 1, api.ErrType)
		}
		for _, f := range x.Funcs {
			d.add(f < -1 || f >= many(d.m, 0), 9, i, 2, api.ErrIndex)
		}
	}
	for i, x := range d.m.Datas {
		if x.Mode == 0 {
			d.add(many(d.m, 2) == 0, 10, i, 0, api.ErrIndex)
			d.add(!modelConstant(c, x.Offset, 0x7f), 10, i, 1, api.ErrType)
		}
	}
}

func modelConstant(c api.Ctx, l []api.Instr, t int) bool {
	if len(l) == 0 || l[len(l)-1].Op != 0x0b {
		return false
	}
	l = l[:len(l)-1]
	if len(l) != 1 {
		return false
	}
	if l[0].Op == 0x41 && t == 0x7f || l[0].Op == 0x42 && t == 0x7e {
		return true
	}
	for i, g := range c.Globals {
		if l[0].Op == 0x23 && l[0].A == i && i < c.Vars {
			return g.Type == t && !g.Mutable
		}
	}
	return false
}

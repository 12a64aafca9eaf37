package ctx

import "trammel/api"

// gather what the bodies may name, be it right or not.
func gather(m api.Module) api.Ctx {
	c := api.Ctx{Elems: len(m.Elems), Datas: len(m.Datas), Counted: len(m.Counts) > 0}
	for _, t := range m.Types {
		c.Types = append(c.Types, anew(t))
	}
	for _, x := range m.Imports {
		addImport(&c, x)
	}
	c.Hosts, c.Vars = len(c.Funcs), len(c.Globals)
	for _, f := range m.Funcs {
		c.Funcs = append(c.Funcs, f.Type)
	}
	c.Tables = append(c.Tables, m.Tables...)
	c.Mems = append(c.Mems, m.Mems...)
	for _, x := range m.Globals {
		c.Globals = append(c.Globals, api.Var{Type: x.Type, Mutable: x.Mutable})
	}
	return c
}

func addImport(c *api.Ctx, x api.Import) {
	switch x.Kind {
	case api.Fn:
		c.Funcs = append(c.Funcs, x.Type)
	case api.Tab:
		c.Tables = append(c.Tables, x.Limits)
	case api.Mem:
		c.Mems = append(c.Mems, x.Limits)
	case api.Glo:
		c.Globals = append(c.Globals, api.Var{Type: x.Type, Mutable: x.Mutable})
	}
}

// anew is the same type in memory of its own.
func anew(t api.FuncType) api.FuncType {
	return api.FuncType{Params: append([]int(nil), t.Params...), Results: append([]int(nil), t.Results...)}
}

package lower

import (
	"trammel/api"
	"trammel/ctx"
	"trammel/num"
	"trammel/pack"
)

// Tested: is a code a site's?
func Tested(op int) bool {
	switch op {
	case api.CallTable, api.MemInit, api.MemCopy, api.MemFill, api.TabInit, api.TabCopy:
		return true
	}
	_, _, _, ok := pack.Access(op)
	return ok
}

// Effect of an instruction: how many values it takes and gives.
func Effect(c api.Ctx, x api.Instr) (int, int, bool) {
	switch x.Op {
	case api.Call:
		t, ok := ctx.Type(c, x.A)
		return len(t.Params), len(t.Results), ok
	case api.CallTable:
		return callTable(c, x.A)
	case api.Nop, api.DataDrop, api.ElemDrop:
		return 0, 0, true
	case api.Const32, api.Const64, api.LocalGet, api.GlobalGet, api.MemSize:
		return 0, 1, true
	case api.Drop, api.LocalSet, api.GlobalSet:
		return 1, 0, true
	case api.LocalTee, api.MemGrow:
		return 1, 1, true
	case api.Select:
		return 3, 1, true
	case api.MemInit, api.MemCopy, api.MemFill, api.TabInit, api.TabCopy:
		return 3, 0, true
	}
	return byLayer(x.Op)
}

// callTable takes the number of the table's entry, too. Below 0 are types of blocks alone.
func callTable(c api.Ctx, n int) (int, int, bool) {
	t, ok := ctx.Block(c, n)
	if n < 0 || !ok {
		return 0, 0, false
	}
	return len(t.Params) + 1, len(t.Results), true
}

// byLayer is the effect of the codes that the layers below know.
func byLayer(op int) (int, int, bool) {
	if _, _, store, ok := pack.Access(op); ok {
		if store {
			return 2, 0, true
		}
		return 1, 1, true
	}
	if in, _, ok := num.Types(op); ok {
		return len(in), 1, true
	}
	return 0, 0, false
}

package load

import (
	"bytes"
	"slices"

	"trammel/api"
)

// Same: do two modules say the same? They are held against each other as they are, formed or not.
func Same(a, b api.Module) bool {
	return slices.EqualFunc(a.Types, b.Types, sameType) &&
		slices.Equal(a.Imports, b.Imports) &&
		slices.EqualFunc(a.Funcs, b.Funcs, sameFunc) &&
		slices.Equal(a.Tables, b.Tables) &&
		slices.Equal(a.Mems, b.Mems) &&
		slices.EqualFunc(a.Globals, b.Globals, sameGlobal) &&
		slices.Equal(a.Exports, b.Exports) &&
		slices.Equal(a.Starts, b.Starts) &&
		slices.EqualFunc(a.Elems, b.Elems, sameElem) &&
		slices.Equal(a.Counts, b.Counts) &&
		slices.EqualFunc(a.Datas, b.Datas, sameData) &&
		slices.EqualFunc(a.Customs, b.Customs, sameCustom)
}

func sameType(a, b api.FuncType) bool {
	return slices.Equal(a.Params, b.Params) && slices.Equal(a.Results, b.Results)
}

func sameFunc(a, b api.Func) bool {
	return a.Type == b.Type && slices.Equal(a.Locals, b.Locals) && sameBody(a.Body, b.Body)
}

func sameGlobal(a, b api.Global) bool {
	return a.Type == b.Type && a.Mutable == b.Mutable && sameBody(a.Init, b.Init)
}

func sameElem(a, b api.Elem) bool {
	return a.Mode == b.Mode && sameBody(a.Offset, b.Offset) && slices.Equal(a.Funcs, b.Funcs)
}

func sameData(a, b api.Data) bool {
	return a.Mode == b.Mode && sameBody(a.Offset, b.Offset) && bytes.Equal(a.Bytes, b.Bytes)
}

func sameCustom(a, b api.Custom) bool {
	return a.Name == b.Name && bytes.Equal(a.Bytes, b.Bytes)
}

func sameBody(a, b []api.Instr) bool { return slices.EqualFunc(a, b, sameInstr) }

func sameInstr(a, b api.Instr) bool {
	return a.Op == b.Op && a.A == b.A && a.B == b.B && a.K == b.K && slices.Equal(a.L, b.L)
}

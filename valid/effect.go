package valid

import (
	"math/bits"
	"slices"

	"trammel/api"
	"trammel/ctx"
	"trammel/num"
	"trammel/pack"
)

// effect is what an instruction takes and gives by what it names alone, whatever block it stands in.
func (k *looker) effect(x api.Instr) (in, out []int) {
	switch x.Op {
	case api.Nop:
		return nil, nil
	case api.BrIf:
		t := k.label(x.A)
		return with32(t), t
	case api.Call, api.CallTable:
		return k.call(x)
	case api.LocalGet, api.LocalSet, api.LocalTee, api.GlobalGet, api.GlobalSet:
		return k.variable(x)
	case api.Const32:
		return nil, i32s(1)
	case api.Const64:
		return nil, []int{api.I64}
	case api.MemSize, api.MemGrow, api.MemInit, api.MemCopy, api.MemFill, api.DataDrop:
		return k.memory(x)
	case api.TabInit, api.TabCopy, api.ElemDrop:
		return k.table(x)
	}
	if t, width, store, ok := pack.Access(x.Op); ok {
		return k.access(x, t, width, store)
	}
	in, t, _ := num.Types(x.Op) // no other code is left, since the body is closed
	return in, []int{t}
}

// with32 is a list with a number on top, by which a branch or a call is chosen.
func with32(l []int) []int { return slices.Concat(l, i32s(1)) }

func i32s(n int) []int { return slices.Repeat([]int{api.I32}, n) }

// named: what an instruction names has to be one of so many things. No number in a closed body is
// below 0.
func named(n, many int) { demand(n < many, api.ErrIndex) }

// label of the number n, the innermost block's first.
func (k *looker) label(n int) []int {
	named(n, len(k.open))
	return k.open[len(k.open)-1-n].label()
}

func (k *looker) call(x api.Instr) (in, out []int) {
	if x.Op == api.Call {
		t, ok := ctx.Type(k.c, x.A)
		demand(ok, api.ErrIndex)
		return t.Params, t.Results
	}
	t, ok := numbered(k.c, x.A)
	demand(ok, api.ErrIndex)
	named(x.B, len(k.c.Tables))
	return with32(t.Params), t.Results
}

func (k *looker) variable(x api.Instr) (in, out []int) {
	switch x.Op {
	case api.LocalGet:
		return nil, k.local(x.A)
	case api.LocalSet:
		return k.local(x.A), nil
	case api.LocalTee:
		return k.local(x.A), k.local(x.A)
	}
	named(x.A, len(k.c.Globals))
	g := k.c.Globals[x.A]
	if x.Op == api.GlobalGet {
		return nil, []int{g.Type}
	}
	demand(g.Mutable, api.ErrArg)
	return []int{g.Type}, nil
}

func (k *looker) local(n int) []int {
	named(n, len(k.locals))
	return []int{k.locals[n]}
}

func (k *looker) memory(x api.Instr) (in, out []int) {
	if x.Op != api.DataDrop {
		k.needMemory()
	}
	if x.Op == api.MemInit || x.Op == api.DataDrop {
		named(x.A, k.c.Datas)
		demand(k.c.Counted, api.ErrIndex)
	}
	switch x.Op {
	case api.MemSize:
		return nil, i32s(1)
	case api.MemGrow:
		return i32s(1), i32s(1)
	case api.DataDrop:
		return nil, nil
	}
	return i32s(3), nil
}

func (k *looker) needMemory() { named(0, len(k.c.Mems)) }

func (k *looker) table(x api.Instr) (in, out []int) {
	if x.Op == api.TabCopy {
		named(x.A, len(k.c.Tables))
	} else {
		named(x.A, k.c.Elems)
	}
	if x.Op == api.ElemDrop {
		return nil, nil
	}
	named(x.B, len(k.c.Tables))
	return i32s(3), nil
}

func (k *looker) access(x api.Instr, t, width int, store bool) (in, out []int) {
	k.needMemory()
	demand(x.A <= bits.TrailingZeros(uint(width)), api.ErrArg)
	if store {
		return []int{api.I32, t}, nil
	}
	return i32s(1), []int{t}
}

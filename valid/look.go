package valid

import (
	"slices"

	"trammel/api"
	"trammel/ctx"
	"trammel/instr"
)

// looker looks at a body, instruction by instruction. By the first thing that doesn't fit it
// panics with a misfit.
type looker struct {
	c      api.Ctx
	locals []int
	open   []*block // the body itself first, the innermost block last
}

func look(c api.Ctx, f api.Func) {
	t, ok := numbered(c, f.Type)
	demand(ok && instr.Closed(f.Body), api.ErrForm)
	k := looker{c: c, locals: slices.Concat(t.Params, f.Locals)}
	k.enter(api.Block, api.FuncType{Results: t.Results}) // its parameters are locals, not on the stack
	for _, x := range f.Body {
		k.instr(x)
	}
}

// numbered type of the context's own list. Such a number is a block's type, too; the others of
// these are below 0.
func numbered(c api.Ctx, t int) (api.FuncType, bool) {
	if t < 0 {
		return api.FuncType{}, false
	}
	return ctx.Block(c, t)
}

func (k *looker) inner() *block { return k.open[len(k.open)-1] }

func (k *looker) enter(op int, t api.FuncType) { k.open = append(k.open, begin(op, t)) }

// leave the innermost block.
func (k *looker) leave() *block {
	b := k.inner()
	b.finish()
	k.open = k.open[:len(k.open)-1]
	return b
}

// instr looks at one instruction. What it names is looked at ahead of what it takes, since that
// error comes first.
func (k *looker) instr(x api.Instr) {
	b := k.inner()
	switch x.Op {
	case api.Unreachable:
		b.die()
	case api.Block, api.Loop, api.If:
		k.block(x)
	case api.Else:
		k.enter(api.Else, k.leave().typ)
	case api.End:
		k.end()
	case api.Br:
		b.takeAll(k.label(x.A))
		b.die()
	case api.BrTable:
		k.branchTable(x)
	case api.Return:
		b.takeAll(k.open[0].label())
		b.die()
	case api.Drop:
		b.take()
	case api.Select:
		k.choose()
	default:
		in, out := k.effect(x)
		b.takeAll(in)
		b.give(out)
	}
}

func (k *looker) block(x api.Instr) {
	t, ok := ctx.Block(k.c, x.A)
	demand(ok, api.ErrIndex)
	b := k.inner()
	if x.Op == api.If {
		b.takeAll(i32s(1))
	}
	b.takeAll(t.Params)
	k.enter(x.Op, t)
}

// end of the innermost block. An if whose number is 0 has no other part without an else, so that
// what goes in is what comes out.
func (k *looker) end() {
	b := k.leave()
	if b.op == api.If {
		demand(slices.Equal(b.typ.Params, b.typ.Results), api.ErrType)
	}
	if len(k.open) > 0 {
		k.inner().give(b.typ.Results)
	}
}

// branchTable: each label has to fit the values that are there, not the types of A's label: values
// of any type fit labels of different types.
func (k *looker) branchTable(x api.Instr) {
	labels := make([][]int, len(x.L))
	for i, n := range x.L {
		labels[i] = k.label(n)
	}
	own := k.label(x.A)
	b := k.inner()
	b.takeAll(i32s(1))
	taken := b.takeAll(own)
	for _, l := range labels {
		demand(slices.EqualFunc(taken, l, value.fits), api.ErrType)
	}
	b.die()
}

// choose: of two values of one type, of which either's may not be known.
func (k *looker) choose() {
	b := k.inner()
	b.takeAll(i32s(1))
	second, first := b.take(), b.take()
	if !first.known {
		first = second
	}
	demand(second.fits(first.typ), api.ErrType)
	b.own = append(b.own, first)
}

package valid

import (
	"slices"

	"trammel/api"
)

// value on the stack. What isn't known to have a type lies below a dead block's own stack, and is
// of any.
type value struct {
	known bool
	typ   int
}

func (v value) fits(t int) bool { return !v.known || v.typ == t }

// block that is open, with its own stack: no instruction in it reaches deeper.
type block struct {
	op   int // what began it, or this part of it: api.Block, api.Loop, api.If or api.Else
	typ  api.FuncType
	own  []value
	dead bool
}

func begin(op int, t api.FuncType) *block {
	b := &block{op: op, typ: t}
	b.give(t.Params)
	return b
}

// label is what a branch to the block takes.
func (b *block) label() []int {
	if b.op == api.Loop {
		return b.typ.Params
	}
	return b.typ.Results
}

func (b *block) give(types []int) {
	for _, t := range types {
		b.own = append(b.own, value{known: true, typ: t})
	}
}

// take the value on top, of whatever type.
func (b *block) take() value {
	last := len(b.own) - 1
	if last < 0 {
		demand(b.dead, api.ErrType)
		return value{}
	}
	v := b.own[last]
	b.own = b.own[:last]
	return v
}

// takeAll values of a list of types, the last one on top, and tell what they were.
func (b *block) takeAll(types []int) []value {
	taken := make([]value, len(types))
	for i, t := range slices.Backward(types) {
		taken[i] = b.take()
		demand(taken[i].fits(t), api.ErrType)
	}
	return taken
}

// die: nothing behind a branch that is always taken is ever done, up to the end of the block.
func (b *block) die() {
	b.own, b.dead = nil, true
}

// finish the block, or a part of it: just what comes out is there.
func (b *block) finish() {
	b.takeAll(b.typ.Results)
	demand(len(b.own) == 0, api.ErrType)
}

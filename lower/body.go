package lower

import (
	"slices"

	"trammel/api"
	"trammel/ctx"
)

// noSite is the number of an instruction that is none.
const noSite = -1

// block that is open.
type block struct {
	typ    api.FuncType
	dead   bool // it began so
	loop   bool
	at     int           // the place of its first instruction
	height int           // of what lies below it
	other  *api.Target   // of an if whose else may come yet: where it goes, if the number is 0
	behind []*api.Target // what goes to the place behind its end
}

// lowerer makes the flat code of a right body, instruction by instruction.
type lowerer struct {
	c      api.Ctx
	code   api.Code
	open   []*block // the body itself first, the innermost block last
	height int      // what lies on the stack; nothing is told by it while it is dead
	dead   bool
}

func (k *lowerer) inner() *block { return k.open[len(k.open)-1] }

// here is the place of what is put next.
func (k *lowerer) here() int { return len(k.code.Flat) }

func (k *lowerer) put(x api.Flat) {
	x.Site = noSite
	if Tested(x.Op) {
		x.Site = k.code.Sites
		k.code.Sites++
	}
	k.code.Flat = append(k.code.Flat, x)
}

// jump to a place that isn't known yet.
func (k *lowerer) jump(op int) *api.Target {
	to := make([]api.Target, 1)
	k.put(api.Flat{Op: op, To: to})
	return &to[0]
}

func (k *lowerer) instr(x api.Instr) {
	switch x.Op {
	case api.Block, api.Loop, api.If:
		k.begin(x)
	case api.Else:
		k.turn()
	case api.End:
		k.end()
	default:
		if !k.dead {
			k.alive(x)
		}
	}
}

// begin a block. Of one that is dead nothing is told but that it is.
func (k *lowerer) begin(x api.Instr) {
	b := &block{dead: k.dead}
	k.open = append(k.open, b)
	if b.dead {
		return
	}
	b.typ, _ = ctx.Block(k.c, x.A)
	if x.Op == api.If {
		b.other = k.jump(api.JumpNot)
		k.height-- // the number that is tested goes into no part
	}
	b.loop, b.at = x.Op == api.Loop, k.here()
	own := len(b.typ.Params)
	b.height = k.height - own
	if b.loop {
		k.code.Loops = append(k.code.Loops, api.Head{At: b.at, Height: b.height, Own: own})
	}
}

// turn to the other part of an if.
func (k *lowerer) turn() {
	b := k.inner()
	if b.dead {
		return
	}
	if !k.dead {
		b.behind = append(b.behind, k.jump(api.Jump))
	}
	b.other.To, b.other = k.here(), nil
	k.dead, k.height = false, b.height+len(b.typ.Params)
}

// end of the innermost block; if that is the body, its place has to be one, too.
func (k *lowerer) end() {
	b := k.inner()
	k.open = k.open[:len(k.open)-1]
	if b.other != nil {
		b.behind = append(b.behind, b.other)
	}
	for _, to := range b.behind {
		to.To = k.here()
	}
	k.dead, k.height = b.dead, b.height+len(b.typ.Results)
	if len(k.open) == 0 {
		k.put(api.Flat{Op: api.End})
	}
}

// alive instruction that begins and ends no block.
func (k *lowerer) alive(x api.Instr) {
	f := api.Flat{Op: x.Op, A: x.A, B: x.B, K: x.K}
	switch x.Op {
	case api.Nop:
		return
	case api.Br, api.BrIf, api.BrTable:
		f.To = k.targets(x)
	}
	k.put(f)
	switch x.Op {
	case api.Unreachable, api.Br, api.BrTable, api.Return:
		k.dead = true
	case api.BrIf:
		k.height-- // what its label takes stays
	default:
		in, out, _ := Effect(k.c, x)
		k.height += out - in
	}
}

// targets of a branch: of the labels of its list, which but a br_table has empty, and of its own.
func (k *lowerer) targets(x api.Instr) []api.Target {
	labels := slices.Concat(x.L, []int{x.A})
	l := make([]api.Target, len(labels))
	for i, n := range labels {
		k.aim(&l[i], k.open[len(k.open)-1-n])
	}
	return l
}

// aim at a block's label: at a loop's beginning, or behind a block's end, where the place isn't
// known yet.
func (k *lowerer) aim(to *api.Target, b *block) {
	to.Height = b.height
	if b.loop {
		to.To, to.Keep = b.at, len(b.typ.Params)
		return
	}
	to.Keep = len(b.typ.Results)
	b.behind = append(b.behind, to)
}

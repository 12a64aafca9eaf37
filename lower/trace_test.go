package lower_test

import (
	"fmt"
	"slices"
	"strings"
	"testing"

	"trammel/api"
)

// tracer goes through a function, block in block or along flat code, as chance has its branches
// go. A value is a number that no other one has, so that a trace tells where each went.
type tracer struct {
	counts model
	rnd    chance
	stack  []int
	next   int
	fuel   int
	trace  []string
}

func newTracer(c api.Ctx, seed int) *tracer {
	return &tracer{counts: model{c: c}, rnd: chance{uint64(seed)}, fuel: 150}
}

func (r *tracer) tell(x ...any) { r.trace = append(r.trace, fmt.Sprintln(x...)) }

// pop the topmost values.
func (r *tracer) pop(n int) []int {
	at := len(r.stack) - n
	l := slices.Clone(r.stack[at:])
	r.stack = r.stack[:at]
	return l
}

// step of an instruction: false, if there is no fuel left for it.
func (r *tracer) step(x api.Instr, in, out int) bool {
	if r.fuel == 0 {
		r.tell("exhausted")
		return false
	}
	r.fuel--
	r.tell(x.Op, x.A, x.B, x.K, r.pop(in))
	for range out {
		r.next++
		r.stack = append(r.stack, r.next)
	}
	return true
}

// leave a block: what goes along stays above so many values.
func (r *tracer) leave(keep, height int) {
	l := r.pop(keep)
	r.stack = append(r.stack[:height], l...)
}

// test the number of an if.
func (r *tracer) test() (first, ok bool) {
	if !r.step(api.Instr{Op: api.If}, 1, 0) {
		return false, false
	}
	return r.rnd.below(2) == 0, true
}

// What a part came to; from 0 on it is a label to which it branches.
const (
	goesOn = -1
	isOver = -2
)

// plain instruction, one that begins and ends no block: which of so many targets it takes.
func (r *tracer) plain(x api.Instr, targets, gives int) int {
	in, out := 0, 0
	switch x.Op {
	case api.Br, api.Return, api.Unreachable:
	case api.BrIf, api.BrTable:
		in = 1
	default:
		in, out = r.counts.counts(x)
	}
	if !r.step(x, in, out) {
		return isOver
	}
	switch x.Op {
	case api.Unreachable:
		return isOver
	case api.Return:
		r.tell("gives", r.pop(gives))
		return isOver
	case api.Br:
		return 0
	case api.BrIf:
		return r.rnd.below(2) - 1
	case api.BrTable:
		return r.rnd.below(targets)
	}
	return goesOn
}

// part of a block; what it came to.
func (r *tracer) part(l []node, gives int) int {
	for _, n := range l {
		to := goesOn
		switch n.x.Op {
		case api.Nop:
		case api.Block, api.Loop, api.If:
			to = r.block(n, gives)
		default:
			labels := append(slices.Clone(n.x.L), n.x.A)
			if to = r.plain(n.x, len(labels), gives); to >= 0 {
				return labels[to]
			}
		}
		if to != goesOn {
			return to
		}
	}
	return goesOn
}

func (r *tracer) block(n node, gives int) int {
	part := n.parts[0]
	if n.x.Op == api.If {
		first, ok := r.test()
		if !ok {
			return isOver
		}
		if !first {
			part = append(n.parts, nil)[1]
		}
	}
	in, out := r.counts.blockCounts(n.x.A)
	height := len(r.stack) - in
	for {
		switch to := r.part(part, gives); {
		case to < 0:
			return to
		case to > 0:
			return to - 1
		case n.x.Op == api.Loop:
			r.leave(in, height)
		default:
			r.leave(out, height)
			return goesOn
		}
	}
}

// blocks of a function, from its beginning to its end.
func (r *tracer) blocks(f api.Func) {
	body, _, _ := tree(f.Body)
	gives := len(r.counts.c.Types[f.Type].Results)
	if r.part(body, gives) != isOver {
		r.tell("gives", r.pop(gives))
	}
}

// along flat code.
func (r *tracer) along(x api.Code) {
	gives := len(x.Type.Results)
	for at := 0; at >= 0; {
		for _, h := range x.Loops {
			if h.At == at && len(r.stack) != h.Height+h.Own {
				r.tell("at", h, "lie", r.stack)
			}
		}
		at = r.follow(x.Flat[at], at+1, gives)
	}
}

// follow an instruction to the place where it goes; it is below 0 if it is over.
func (r *tracer) follow(y api.Flat, next, gives int) int {
	switch y.Op {
	case api.End:
		r.tell("gives", r.pop(len(r.stack)))
		return isOver
	case api.Jump:
		return y.To[0].To
	case api.JumpNot:
		first, ok := r.test()
		if !ok {
			return isOver
		}
		if first {
			return next
		}
		return y.To[0].To
	}
	n := r.plain(api.Instr{Op: y.Op, A: y.A, B: y.B, K: y.K}, len(y.To), gives)
	if n >= 0 {
		r.leave(y.To[n].Keep, y.To[n].Height)
		return y.To[n].To
	}
	if n == isOver {
		return isOver
	}
	return next
}

// traced: along its flat code a function does what it does block in block, whichever way its
// branches go.
func traced(t *testing.T, c api.Ctx, f api.Func, x api.Code) {
	t.Helper()
	ways := 1
	for _, y := range f.Body {
		if y.Op == api.If || y.Op == api.BrIf || y.Op == api.BrTable {
			ways = 6
		}
	}
	for seed := range ways {
		deep, flat := newTracer(c, seed), newTracer(c, seed)
		deep.blocks(f)
		flat.along(x)
		if !slices.Equal(deep.trace, flat.trace) {
			t.Fatalf("%+v:\n%s, but along %s:\n%s", f, strings.Join(deep.trace, ""), flatsText(x.Flat), strings.Join(flat.trace, ""))
		}
	}
}

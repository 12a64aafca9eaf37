package instr

import "trammel/api"

// blocks is what is open in a body, instruction by instruction.
type blocks struct {
	mayElse []bool // of each open block, the innermost last: may an else stand in it?
	count   int
	ended   bool
}

// take goes on by one instruction, or tells why it may not stand there.
func (k *blocks) take(op int) api.Errno {
	if k.count == api.MaxBody {
		return api.ErrLong
	}
	k.count++
	switch op {
	case api.Block, api.Loop, api.If:
		return k.open(op == api.If)
	case api.Else:
		return k.turn()
	case api.End:
		k.end()
	}
	return api.OK
}

func (k *blocks) open(mayElse bool) api.Errno {
	if len(k.mayElse) == api.MaxDeep {
		return api.ErrLong
	}
	k.mayElse = append(k.mayElse, mayElse)
	return api.OK
}

// turn to the other half of the innermost block, which there is once.
func (k *blocks) turn() api.Errno {
	last := len(k.mayElse) - 1
	if last < 0 || !k.mayElse[last] {
		return api.ErrForm
	}
	k.mayElse[last] = false
	return api.OK
}

// end closes the innermost block; if none is open, the body.
func (k *blocks) end() {
	if len(k.mayElse) == 0 {
		k.ended = true
		return
	}
	k.mayElse = k.mayElse[:len(k.mayElse)-1]
}

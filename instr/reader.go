package instr

import (
	"trammel/api"
	"trammel/leb"
	"trammel/typ"
)

// reader goes through bytes. Its first error stays, which is the one that comes first byte by
// byte; what is read behind it is of no use, and does no harm.
type reader struct {
	b  []byte
	at int
	e  api.Errno
}

func (r *reader) instr() api.Instr {
	x := api.Instr{Op: r.code()}
	switch form(x.Op) {
	case absent:
		r.fail(api.ErrForm)
	case foreign:
		r.fail(api.ErrWide)
	case blockType:
		x.A = r.block()
	case number:
		x.A = r.number()
	case numbers:
		x.A = r.number()
		x.B = r.number()
	case labels:
		x.L = r.labels()
		x.A = r.number()
	case zero:
		r.zero()
	case zeros:
		r.zero()
		r.zero()
	case numberZero:
		x.A = r.number()
		r.zero()
	case small:
		x.K = r.signed(32)
	case great:
		x.K = r.signed(64)
	}
	return x
}

func (r *reader) fail(e api.Errno) {
	if r.e == api.OK {
		r.e = e
	}
}

// code of an instruction. The prefix is no code of its own.
func (r *reader) code() int {
	first := r.byte()
	if first == prefix {
		return prefixed + r.number()
	}
	return int(first)
}

func (r *reader) byte() byte {
	if r.at == len(r.b) {
		r.fail(api.ErrShort)
		return 0
	}
	r.at++
	return r.b[r.at-1]
}

func (r *reader) zero() {
	if r.byte() != 0 {
		r.fail(api.ErrForm)
	}
}

func (r *reader) number() int {
	n, size, e := leb.U(r.b[r.at:], numberBits)
	r.pass(size, e)
	return int(n)
}

func (r *reader) signed(bits int) int64 {
	n, size, e := leb.S(r.b[r.at:], bits)
	r.pass(size, e)
	return n
}

func (r *reader) block() int {
	t, size, e := typ.Block(r.b[r.at:])
	r.pass(size, e)
	return t
}

// pass goes on behind what was read, or fails as that did.
func (r *reader) pass(size int, e api.Errno) {
	r.at += size
	r.fail(e)
}

// labels reads how many there are, and these. Too many are told ahead of what they are.
func (r *reader) labels() []int {
	count := r.number()
	if count > api.MaxLabels {
		r.fail(api.ErrLong)
		return nil
	}
	list := make([]int, count)
	for i := range list {
		list[i] = r.number()
	}
	return list
}

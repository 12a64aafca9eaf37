package mod

import (
	"trammel/api"
	"trammel/leb"
	"trammel/typ"
	"trammel/utf"
)

// reader goes through the bytes of a section or of a code. Its first error stays, which is the one
// that comes first byte by byte; what is read behind it is of no use, and does no harm.
type reader struct {
	b []byte // what is still to be read
	e api.Errno
}

func (r *reader) fail(e api.Errno) {
	if r.e == api.OK {
		r.e = e
	}
}

// end: nothing may be left over.
func (r *reader) end() {
	if len(r.b) > 0 {
		r.fail(api.ErrForm)
	}
}

// read what a layer below knows to read.
func read[T any](r *reader, below func([]byte) (T, int, api.Errno)) T {
	x, size, e := below(r.b)
	r.b = r.b[size:]
	r.fail(e)
	return x
}

// list of things: how many there are, and each of them.
func list[T any](r *reader, one func(*reader) T) []T {
	return things(r, r.number(), one)
}

// things, so many of them. Too many are told ahead of what they are.
func things[T any](r *reader, count int, one func(*reader) T) []T {
	if count > api.MaxItems {
		r.fail(api.ErrLong)
	}
	if r.e != api.OK {
		return nil
	}
	l := make([]T, count)
	for i := range l {
		l[i] = one(r)
	}
	return l
}

// take so many bytes. They are the reader's own, and not to be handed out.
func (r *reader) take(count int) []byte {
	if count > len(r.b) {
		r.fail(api.ErrShort)
		return nil
	}
	taken := r.b[:count]
	r.b = r.b[count:]
	return taken
}

func (r *reader) byte() byte {
	if b := r.take(1); len(b) == 1 {
		return b[0]
	}
	return 0
}

// upTo reads a byte that may be so great at most.
func (r *reader) upTo(most byte) int {
	b := r.byte()
	if b > most {
		r.fail(api.ErrForm)
	}
	return int(b)
}

func (r *reader) flag() bool { return r.upTo(1) == 1 }

// must: a byte that can't be another.
func (r *reader) must(b byte) {
	if r.byte() != b {
		r.fail(api.ErrForm)
	}
}

// functions reads what a table holds.
func (r *reader) functions() {
	switch r.byte() {
	case functions:
	case externals:
		r.fail(api.ErrWide)
	default:
		r.fail(api.ErrForm)
	}
}

// only the first table, or memory, is done here.
func (r *reader) only() {
	if r.number() != 0 {
		r.fail(api.ErrWide)
	}
}

func (r *reader) number() int {
	return read(r, func(b []byte) (int, int, api.Errno) {
		n, size, e := leb.U(b, numberBits)
		return int(n), size, e
	})
}

func (r *reader) name() string { return read(r, utf.Name) }

func (r *reader) val() int { return read(r, typ.Val) }

func (r *reader) funcType() api.FuncType { return read(r, typ.Func) }

func (r *reader) limits() api.Limits { return read(r, typ.Limits) }

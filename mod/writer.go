package mod

import (
	"trammel/api"
	"trammel/leb"
	"trammel/typ"
	"trammel/utf"
)

// writer puts things one behind the other, up to as many bytes as a module may have. Behind an
// error it goes on, since of two errors the one that is met first isn't always the one that is told.
type writer struct {
	b []byte
	e api.Errno
}

func (w *writer) fail(e api.Errno) { w.e = first(w.e, e) }

// first of two errors that the chapter names: ErrForm is told ahead of ErrLong.
func first(a, b api.Errno) api.Errno {
	if a == api.OK || b == api.ErrForm {
		return b
	}
	return a
}

// put by a layer below. Whatever this tells, the thing is none that may stand in a module.
func put[T any](w *writer, below func([]byte, T) ([]byte, api.Errno), x T) {
	b, e := below(nil, x)
	if e != api.OK {
		w.fail(api.ErrForm)
	}
	w.raw(b...)
}

// putList puts how many there are, and each of them.
func putList[T any](w *writer, l []T, one func(*writer, T)) {
	if len(l) > api.MaxItems {
		w.fail(api.ErrForm)
		return
	}
	w.number(len(l))
	for _, x := range l {
		one(w, x)
	}
}

func (w *writer) raw(b ...byte) {
	if len(b) > api.MaxBytes-len(w.b) {
		w.fail(api.ErrLong)
		return
	}
	w.b = append(w.b, b...)
}

func (w *writer) number(n int) {
	if n < 0 || n > greatest {
		w.fail(api.ErrForm)
		return
	}
	w.raw(leb.PutU(nil, uint64(n))...)
}

// upTo puts a byte that may be so great at most.
func (w *writer) upTo(n, most int) {
	if n < 0 || n > most {
		w.fail(api.ErrForm)
	}
	w.raw(byte(n))
}

func (w *writer) flag(set bool) {
	if set {
		w.raw(1)
	} else {
		w.raw(0)
	}
}

func (w *writer) val(v int) {
	if v != api.I32 && v != api.I64 {
		w.fail(api.ErrForm)
	}
	w.raw(byte(v))
}

// bytes, and ahead of them how many they are.
func (w *writer) bytes(b []byte) {
	w.raw(leb.PutU(nil, uint64(len(b)))...)
	w.raw(b...)
}

func (w *writer) name(s string) { put(w, utf.PutName, s) }

func (w *writer) funcType(t api.FuncType) { put(w, typ.PutFunc, t) }

func (w *writer) limits(l api.Limits) { put(w, typ.PutLimits, l) }

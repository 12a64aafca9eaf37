package instr

import (
	"math"
	"slices"
	"strings"

	"trammel/api"
)

const top = 1<<32 - 1

// The chapter's table, a letter for each code, sixteen a row: n nothing, b a block's type, u A,
// v A and B, l labels and A, z a byte 0, Z two of them, m A and a byte 0, k and K a number of 32
// and of 64 bits; w known but not done here, p what stands ahead of another code, . none.
const (
	ofByte = "" +
		"nnbbbn.....nuuln" + "uv........nnw..." + "uuuuuww.vvwwvvvv" + "vvvvvvvvwwvvvvvz" +
		"zkKwwnnnnnnnnnnn" + "nnnnnnnnnnnwwwww" + "wwwwwwwnnnnnnnnn" + "nnnnnnnnnnnnnnnn" +
		"nnnnnnnnnnnwwwww" + "wwwwwwwwwwwwwwww" + "wwwwwwwnwwwwnnww" + "wwwwwwwwwwwwwwww" +
		"nnnnn..........." + "www............." + "................" + "............pw.."
	behindPrefix = "wwwwwwwwmuZzvuvwww"
)

func letter(op int) byte {
	switch {
	case op >= 0 && op < 0x100 && ofByte[op] != 'p':
		return ofByte[op]
	case op >= 0x100 && op < 0x100+len(behindPrefix):
		return behindPrefix[op-0x100]
	}
	return '.'
}

// codes are all codes that are done.
func codes() []int {
	var all []int
	for op := range 0x200 {
		if !strings.ContainsRune(".w", rune(letter(op))) {
			all = append(all, op)
		}
	}
	return all
}

// model reads byte by byte and stays at the first error. Its numbers are added up, as floats where
// they may be too great.
type model struct {
	b  []byte
	at int
	e  api.Errno
}

func (m *model) fail(e api.Errno) {
	if m.e == api.OK {
		m.e = e
	}
}

func (m *model) next() int {
	if m.e == api.OK && m.at < len(m.b) {
		m.at++
		return int(m.b[m.at-1])
	}
	m.fail(api.ErrShort)
	return 0
}

// digits takes up to so many pieces of seven bits.
func (m *model) digits(most int) (pieces []int) {
	for m.e == api.OK && len(pieces) < most {
		d := m.next()
		pieces = append(pieces, d%128)
		if d < 128 {
			return pieces
		}
	}
	m.fail(api.ErrForm)
	return nil
}

func (m *model) unsigned() int {
	n := 0
	for i, d := range m.digits(5) {
		n += d << (7 * i)
	}
	if n > top {
		m.fail(api.ErrForm)
	}
	return n
}

// signed holds a number against the ends of its range, before it is cut to 64 bits.
func (m *model) signed(bits int) int64 {
	pieces := m.digits((bits + 6) / 7)
	n, wide, weight := uint64(0), 0.0, 1.0
	for i, d := range pieces {
		if i == len(pieces)-1 && d >= 64 {
			d -= 128
		}
		n += uint64(int64(d)) << (7 * i)
		wide += float64(d) * weight
		weight *= 128
	}
	edge := math.Pow(2, float64(bits-1))
	// A float of 64 bits has no room for the lowest pieces; the last piece alone tells.
	if len(pieces) == 10 {
		d := pieces[9]
		if d != 0 && d != 127 {
			m.fail(api.ErrForm)
		}
	} else if wide >= edge || wide < -edge {
		m.fail(api.ErrForm)
	}
	return int64(n)
}

func (m *model) block() int {
	if m.at == len(m.b) {
		m.fail(api.ErrShort)
		return 0
	}
	switch first := m.b[m.at]; first {
	case 0x40, 0x7f, 0x7e:
		m.at++
		return int(first) - 128
	case 0x7d, 0x7c, 0x7b, 0x70, 0x6f:
		m.fail(api.ErrWide)
		return 0
	}
	n := m.signed(33)
	if n < 0 {
		m.fail(api.ErrForm)
	}
	return int(n)
}

func (m *model) zero() {
	if m.next() != 0 {
		m.fail(api.ErrForm)
	}
}

func (m *model) code() int {
	op := m.next()
	if m.e == api.OK && op == 0xfc {
		return 0x100 + m.unsigned()
	}
	return op
}

func (m *model) one() api.Instr {
	x := api.Instr{Op: m.code()}
	if m.e != api.OK {
		return x
	}
	switch letter(x.Op) {
	case '.':
		m.fail(api.ErrForm)
	case 'w':
		m.fail(api.ErrWide)
	case 'b':
		x.A = m.block()
	case 'u':
		x.A = m.unsigned()
	case 'v':
		x.A = m.unsigned()
		x.B = m.unsigned()
	case 'l':
		n := m.unsigned()
		if m.e == api.OK && n > 64 {
			m.fail(api.ErrLong)
		}
		for i := 0; m.e == api.OK && i < n; i++ {
			x.L = append(x.L, m.unsigned())
		}
		x.A = m.unsigned()
	case 'z':
		m.zero()
	case 'Z':
		m.zero()
		m.zero()
	case 'm':
		x.A = m.unsigned()
		m.zero()
	case 'k':
		x.K = m.signed(32)
	case 'K':
		x.K = m.signed(64)
	}
	return x
}

func modelOne(b []byte) (api.Instr, int, api.Errno) {
	m := &model{b: b}
	x := m.one()
	if m.e != api.OK {
		return api.Instr{}, 0, m.e
	}
	return x, m.at, api.OK
}

// piece reads up to the end of a block, and the blocks within it by calling itself.
func (m *model) piece(list []api.Instr, deep int, mayElse bool) []api.Instr {
	for m.e == api.OK {
		x := m.one()
		if m.e == api.OK && len(list) >= 2000 {
			m.fail(api.ErrLong)
		}
		list = append(list, x)
		if m.e != api.OK {
			break
		}
		switch x.Op {
		case 0x0b:
			return list
		case 0x05:
			if !mayElse {
				m.fail(api.ErrForm)
			}
			mayElse = false
		case 0x02, 0x03, 0x04:
			if deep == 64 {
				m.fail(api.ErrLong)
			}
			list = m.piece(list, deep+1, x.Op == 0x04)
		}
	}
	return list
}

func modelBody(b []byte) ([]api.Instr, int, api.Errno) {
	m := &model{b: b}
	l := m.piece(nil, 0, false)
	if m.e != api.OK {
		return nil, 0, m.e
	}
	return l, m.at, api.OK
}

func putUnsigned(b []byte, n uint64) []byte {
	if n < 128 {
		return append(b, byte(n))
	}
	return putUnsigned(append(b, byte(n%128)+128), n/128)
}

func putSigned(b []byte, n int64) []byte {
	if n >= -64 && n < 64 {
		return append(b, byte(n)&127)
	}
	return putSigned(append(b, byte(n)|128), n>>7)
}

// modelPut lays what an instruction has, be it formed or not.
func modelPut(x api.Instr) []byte {
	b := []byte{byte(x.Op)}
	if x.Op >= 0x100 {
		b = putUnsigned([]byte{0xfc}, uint64(x.Op-0x100))
	}
	u := func(n int) { b = putUnsigned(b, uint64(n)) }
	switch letter(x.Op) {
	case 'b':
		b = putSigned(b, int64(x.A))
	case 'u':
		u(x.A)
	case 'v':
		u(x.A)
		u(x.B)
	case 'l':
		u(len(x.L))
		for _, n := range x.L {
			u(n)
		}
		u(x.A)
	case 'z':
		b = append(b, 0)
	case 'Z':
		b = append(b, 0, 0)
	case 'm':
		u(x.A)
		b = append(b, 0)
	case 'k', 'K':
		b = putSigned(b, x.K)
	}
	return b
}

// modelFormed: what is laid of it is read as it.
func modelFormed(x api.Instr) bool {
	if letter(x.Op) == '.' {
		return false
	}
	b := modelPut(x)
	y, size, e := modelOne(b)
	return e == api.OK && size == len(b) && same(x, y)
}

func modelClosed(l []api.Instr) bool {
	var b []byte
	for _, x := range l {
		if !modelFormed(x) {
			return false
		}
		b = append(b, modelPut(x)...)
	}
	_, size, e := modelBody(b)
	return e == api.OK && size == len(b)
}

func same(x, y api.Instr) bool {
	return x.Op == y.Op && x.A == y.A && x.B == y.B && x.K == y.K && slices.Equal(x.L, y.L)
}

func sameList(a, b []api.Instr) bool { return slices.EqualFunc(a, b, same) }

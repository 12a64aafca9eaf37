package mod

import (
	"bytes"
	"slices"
	"unicode/utf8"

	"trammel/api"
	"trammel/instr"
)

const top = 1<<32 - 1

// model reads a module in the chapter's words, one byte after the other, and shares no step with
// the package but that layer 6 reads the expressions. It stays at the first error.
type model struct {
	b     []byte
	at    int
	end   int // of what is read: the module, a section, a code
	e     api.Errno
	m     api.Module
	last  int // the section ahead that isn't custom
	kinds []int
	coded bool
	dated bool
}

func modelDecode(b []byte) (api.Module, api.Errno) {
	if len(b) > 65536 {
		return api.Module{}, api.ErrLong
	}
	d := &model{b: b, end: len(b)}
	for _, want := range []int{0, 0x61, 0x73, 0x6d, 1, 0, 0, 0} {
		d.is(want)
	}
	for d.e == api.OK && d.at < len(b) {
		d.section()
	}
	if d.e == api.OK && (!d.coded && len(d.kinds) > 0 || !d.dated && len(d.m.Counts) > 0 && d.m.Counts[0] > 0) {
		d.e = api.ErrForm
	}
	if d.e != api.OK {
		return api.Module{}, d.e
	}
	return d.m, api.OK
}

func (d *model) fail(e api.Errno) {
	if d.e == api.OK {
		d.e = e
	}
}

func (d *model) next() int {
	if d.e != api.OK || d.at == d.end {
		d.fail(api.ErrShort)
		return -1
	}
	d.at++
	return int(d.b[d.at-1])
}

func (d *model) is(want int) {
	if d.next() != want {
		d.fail(api.ErrForm)
	}
}

func (d *model) most(most int) int {
	n := d.next()
	if n > most {
		d.fail(api.ErrForm)
	}
	return n
}

func (d *model) u() int {
	sum, weight := 0, 1
	for range 5 {
		digit := d.next()
		if d.e != api.OK {
			return 0
		}
		sum += digit % 128 * weight
		weight *= 128
		if digit < 128 {
			if sum > top {
				d.fail(api.ErrForm)
			}
			return sum
		}
	}
	d.fail(api.ErrForm)
	return 0
}

// within reads what has so many bytes, which have to be there and to be read.
func (d *model) within(size int, what func()) {
	if d.e == api.OK && size > d.end-d.at {
		d.fail(api.ErrShort)
	}
	if d.e != api.OK {
		return
	}
	outer := d.end
	d.end = d.at + size
	what()
	if d.at != d.end {
		d.fail(api.ErrForm)
	}
	d.end = outer
}

func (d *model) section() {
	id := d.next()
	if id > 12 || id != 0 && weight(id) <= weight(d.last) {
		d.fail(api.ErrForm)
		return
	}
	if id != 0 {
		d.last = id
	}
	d.within(d.u(), func() { d.inside(id) })
}

// weight of a section's number, by which 12 lies between 9 and 10.
func weight(id int) int {
	if id == 12 {
		return 19
	}
	return 2 * id
}

func (d *model) inside(id int) {
	switch id {
	case 0:
		name := d.name()
		d.m.Customs = append(d.m.Customs, api.Custom{Name: name, Bytes: d.bytes(d.end - d.at)})
	case 1:
		d.many(func() { d.m.Types = append(d.m.Types, d.funcType()) })
	case 2:
		d.many(func() { d.m.Imports = append(d.m.Imports, d.imported()) })
	case 3:
		d.many(func() { d.kinds = append(d.kinds, d.u()) })
	case 4:
		d.many(func() { d.m.Tables = append(d.m.Tables, d.table()) })
	case 5:
		d.many(func() { d.m.Mems = append(d.m.Mems, d.limits()) })
	case 6:
		d.many(func() {
			t := d.val()
			mutable := d.most(1) == 1
			d.m.Globals = append(d.m.Globals, api.Global{Type: t, Mutable: mutable, Init: d.body()})
		})
	case 7:
		d.many(func() {
			name := d.name()
			kind := d.most(3)
			d.m.Exports = append(d.m.Exports, api.Export{Name: name, Kind: kind, Index: d.u()})
		})
	case 8:
		d.m.Starts = []int{d.u()}
	case 9:
		d.many(func() { d.m.Elems = append(d.m.Elems, d.elem()) })
	case 10:
		d.coded = true
		d.codes()
	case 11:
		d.dated = true
		d.datas()
	case 12:
		d.m.Counts = []int{d.u()}
	}
}

func (d *model) many(one func()) { d.times(d.u(), one) }

func (d *model) times(n int, one func()) {
	if n > 64 {
		d.fail(api.ErrLong)
	}
	for i := 0; d.e == api.OK && i < n; i++ {
		one()
	}
}

func (d *model) bytes(n int) []byte {
	if d.e == api.OK && n > d.end-d.at {
		d.fail(api.ErrShort)
	}
	if d.e != api.OK {
		return nil
	}
	d.at += n
	return slices.Clone(d.b[d.at-n : d.at])
}

func (d *model) name() string {
	b := d.bytes(d.u())
	if d.e == api.OK && !utf8.Valid(b) {
		d.fail(api.ErrForm)
	}
	if len(b) > 64 {
		d.fail(api.ErrLong)
	}
	return string(b)
}

func (d *model) val() int {
	switch t := d.next(); t {
	case 0x7f, 0x7e:
		return t
	case 0x7d, 0x7c, 0x7b, 0x70, 0x6f:
		d.fail(api.ErrWide)
	default:
		d.fail(api.ErrForm)
	}
	return 0
}

func (d *model) vals() []int {
	var l []int
	n := d.u()
	if n > 8 {
		d.fail(api.ErrLong)
	}
	for d.e == api.OK && len(l) < n {
		l = append(l, d.val())
	}
	return l
}

func (d *model) funcType() api.FuncType {
	d.is(0x60)
	params := d.vals()
	return api.FuncType{Params: params, Results: d.vals()}
}

func (d *model) limits() api.Limits {
	if d.most(1) == 1 {
		least := d.u()
		return api.Limits{Min: least, Capped: true, Max: d.u()}
	}
	return api.Limits{Min: d.u()}
}

func (d *model) seventy() {
	switch d.next() {
	case 0x70:
	case 0x6f:
		d.fail(api.ErrWide)
	default:
		d.fail(api.ErrForm)
	}
}

func (d *model) table() api.Limits {
	d.seventy()
	return d.limits()
}

func (d *model) body() []api.Instr {
	if d.e != api.OK {
		return nil
	}
	l, size, e := instr.Body(d.b[d.at:d.end])
	d.fail(e)
	d.at += size
	return l
}

func (d *model) imported() api.Import {
	var x api.Import
	x.Module = d.name()
	x.Name = d.name()
	x.Kind = d.most(3)
	switch x.Kind {
	case 0:
		x.Type = d.u()
	case 1:
		x.Limits = d.table()
	case 2:
		x.Limits = d.limits()
	case 3:
		x.Type = d.val()
		x.Mutable = d.most(1) == 1
	}
	return x
}

func (d *model) first() {
	if d.u() != 0 {
		d.fail(api.ErrWide)
	}
}

// elem is read form by form, as the chapter lists them.
func (d *model) elem() api.Elem {
	var x api.Elem
	number := func() { d.many(func() { x.Funcs = append(x.Funcs, d.u()) }) }
	one := func() { d.many(func() { x.Funcs = append(x.Funcs, d.entry()) }) }
	switch form := d.u(); form {
	case 0:
		x.Offset = d.body()
		number()
	case 1, 3:
		x.Mode = []int{1: 1, 3: 2}[form]
		d.is(0)
		number()
	case 2:
		d.first()
		x.Offset = d.body()
		d.is(0)
		number()
	case 4:
		x.Offset = d.body()
		one()
	case 5, 7:
		x.Mode = []int{5: 1, 7: 2}[form]
		d.seventy()
		one()
	case 6:
		d.first()
		x.Offset = d.body()
		d.seventy()
		one()
	default:
		d.fail(api.ErrForm)
	}
	return x
}

func (d *model) entry() int {
	f := -1
	switch d.next() {
	case 0xd2:
		f = d.u()
	case 0xd0:
		d.seventy()
	default:
		d.fail(api.ErrWide)
	}
	d.is(0x0b)
	return f
}

func (d *model) codes() {
	n := d.u()
	if n != len(d.kinds) {
		d.fail(api.ErrForm)
	}
	d.times(n, func() {
		f := api.Func{Type: d.kinds[len(d.m.Funcs)]}
		d.within(d.u(), func() {
			for pairs := d.u(); d.e == api.OK && pairs > 0; pairs-- {
				count := d.u()
				if len(f.Locals)+count > 64 {
					d.fail(api.ErrLong)
					return
				}
				t := d.val()
				for range count {
					f.Locals = append(f.Locals, t)
				}
			}
			f.Body = d.body()
		})
		d.m.Funcs = append(d.m.Funcs, f)
	})
}

func (d *model) datas() {
	n := d.u()
	if len(d.m.Counts) == 1 && d.m.Counts[0] != n {
		d.fail(api.ErrForm)
	}
	d.times(n, func() {
		var x api.Data
		switch d.u() {
		case 0:
			x.Offset = d.body()
		case 1:
			x.Mode = 1
		case 2:
			d.first()
			x.Offset = d.body()
		default:
			d.fail(api.ErrForm)
		}
		x.Bytes = d.bytes(d.u())
		d.m.Datas = append(d.m.Datas, x)
	})
}

func u(n int) []byte {
	if n < 128 {
		return []byte{byte(n)}
	}
	return append([]byte{byte(n%128 + 128)}, u(n/128)...)
}

func join(parts ...[]byte) []byte { return slices.Concat(parts...) }

// begin is the first eight bytes, with others behind them.
func begin(parts ...[]byte) []byte {
	return join([]byte{0, 'a', 's', 'm', 1, 0, 0, 0}, join(parts...))
}

func sized(b []byte) []byte { return join(u(len(b)), b) }

// sec is a section, whatever its bytes are.
func sec(id byte, b ...byte) []byte { return join([]byte{id}, sized(b)) }

func text(s string) []byte { return sized([]byte(s)) }

func flagged(set bool, rest ...[]byte) []byte {
	if set {
		return join([]byte{1}, join(rest...))
	}
	return join([]byte{0}, join(rest...))
}

func bound(l api.Limits) []byte {
	if l.Capped {
		return join([]byte{1}, u(l.Min), u(l.Max))
	}
	return join([]byte{0}, u(l.Min))
}

func express(l []api.Instr) []byte {
	b, _ := instr.PutBody(nil, l)
	return b
}

func vals(l []int) []byte {
	b := u(len(l))
	for _, t := range l {
		b = append(b, byte(t))
	}
	return b
}

// counted list of parts, as one section; none, if it is empty.
func lay[T any](id byte, l []T, one func(T) []byte) []byte {
	if len(l) == 0 {
		return nil
	}
	b := u(len(l))
	for _, x := range l {
		b = append(b, one(x)...)
	}
	return sec(id, b...)
}

// modelEncode lays a module that is formed, however many bytes that takes.
func modelEncode(m api.Module) []byte {
	var b []byte
	b = append(b, begin()...)
	b = append(b, lay(1, m.Types, func(t api.FuncType) []byte { return join([]byte{0x60}, vals(t.Params), vals(t.Results)) })...)
	b = append(b, lay(2, m.Imports, layImport)...)
	b = append(b, lay(3, m.Funcs, func(f api.Func) []byte { return u(f.Type) })...)
	b = append(b, lay(4, m.Tables, func(l api.Limits) []byte { return join([]byte{0x70}, bound(l)) })...)
	b = append(b, lay(5, m.Mems, bound)...)
	b = append(b, lay(6, m.Globals, func(x api.Global) []byte {
		return join([]byte{byte(x.Type)}, flagged(x.Mutable, express(x.Init)))
	})...)
	b = append(b, lay(7, m.Exports, func(x api.Export) []byte { return join(text(x.Name), []byte{byte(x.Kind)}, u(x.Index)) })...)
	for _, n := range m.Starts {
		b = append(b, sec(8, u(n)...)...)
	}
	b = append(b, lay(9, m.Elems, layElem)...)
	for _, n := range m.Counts {
		b = append(b, sec(12, u(n)...)...)
	}
	b = append(b, lay(10, m.Funcs, layCode)...)
	b = append(b, lay(11, m.Datas, func(x api.Data) []byte {
		return join([]byte{byte(x.Mode)}, express(x.Offset), sized(x.Bytes))
	})...)
	for _, c := range m.Customs {
		b = append(b, sec(0, join(text(c.Name), c.Bytes)...)...)
	}
	return b
}

func layImport(x api.Import) []byte {
	names := join(text(x.Module), text(x.Name), []byte{byte(x.Kind)})
	switch x.Kind {
	case 0:
		return join(names, u(x.Type))
	case 1:
		return join(names, []byte{0x70}, bound(x.Limits))
	case 2:
		return join(names, bound(x.Limits))
	}
	return join(names, []byte{byte(x.Type)}, flagged(x.Mutable))
}

func layElem(x api.Elem) []byte {
	if slices.Contains(x.Funcs, -1) {
		ahead := [][]byte{join([]byte{4}, express(x.Offset)), {5, 0x70}, {7, 0x70}}[x.Mode]
		return join(ahead, u(len(x.Funcs)), layEntries(x.Funcs))
	}
	b := join([][]byte{join([]byte{0}, express(x.Offset)), {1, 0}, {3, 0}}[x.Mode], u(len(x.Funcs)))
	for _, f := range x.Funcs {
		b = append(b, u(f)...)
	}
	return b
}

func layEntries(l []int) []byte {
	var b []byte
	for _, f := range l {
		if f < 0 {
			b = append(b, 0xd0, 0x70, 0x0b)
		} else {
			b = append(append(append(b, 0xd2), u(f)...), 0x0b)
		}
	}
	return b
}

func layCode(f api.Func) []byte {
	var pairs [][2]int
	for i := 0; i < len(f.Locals); {
		from := i
		for i < len(f.Locals) && f.Locals[i] == f.Locals[from] {
			i++
		}
		pairs = append(pairs, [2]int{i - from, f.Locals[from]})
	}
	b := u(len(pairs))
	for _, p := range pairs {
		b = append(b, byte(p[0]), byte(p[1]))
	}
	return sized(join(b, express(f.Body)))
}

func is32(n int) bool { return n >= 0 && n <= top }

func isVal(t int) bool { return t == 0x7f || t == 0x7e }

func isName(s string) bool { return utf8.ValidString(s) && len(s) <= 64 }

func isBound(l api.Limits) bool { return is32(l.Min) && is32(l.Max) && (l.Capped || l.Max == 0) }

func areVals(l []int, most int) bool { return all(l, most, isVal) }

func all[T any](l []T, most int, right func(T) bool) bool {
	return len(l) <= most && !slices.ContainsFunc(l, func(x T) bool { return !right(x) })
}

// modelParts: is each part of a module formed, and does each fit the others? How many bytes they
// take isn't asked.
func modelParts(m api.Module) bool {
	return all(m.Types, 64, func(t api.FuncType) bool { return areVals(t.Params, 8) && areVals(t.Results, 8) }) &&
		all(m.Imports, 64, isImport) &&
		all(m.Funcs, 64, func(f api.Func) bool { return is32(f.Type) && areVals(f.Locals, 64) && instr.Closed(f.Body) }) &&
		all(m.Tables, 64, isBound) && all(m.Mems, 64, isBound) &&
		all(m.Globals, 64, func(x api.Global) bool { return isVal(x.Type) && instr.Closed(x.Init) }) &&
		all(m.Exports, 64, func(x api.Export) bool {
			return isName(x.Name) && x.Kind >= 0 && x.Kind <= 3 && is32(x.Index)
		}) &&
		all(m.Starts, 1, is32) && all(m.Elems, 64, isElem) &&
		all(m.Counts, 1, func(n int) bool { return n == len(m.Datas) }) &&
		all(m.Datas, 64, func(x api.Data) bool {
			return x.Mode == 0 && instr.Closed(x.Offset) || x.Mode == 1 && len(x.Offset) == 0
		}) &&
		all(m.Customs, len(m.Customs), func(c api.Custom) bool { return isName(c.Name) })
}

func isImport(x api.Import) bool {
	if !isName(x.Module) || !isName(x.Name) {
		return false
	}
	switch x.Kind {
	case 0:
		return is32(x.Type) && x.Limits == api.Limits{} && !x.Mutable
	case 1, 2:
		return x.Type == 0 && isBound(x.Limits) && !x.Mutable
	case 3:
		return isVal(x.Type) && x.Limits == api.Limits{}
	}
	return false
}

func isElem(x api.Elem) bool {
	if !all(x.Funcs, 64, func(f int) bool { return f == -1 || is32(f) }) {
		return false
	}
	return x.Mode == 0 && instr.Closed(x.Offset) || (x.Mode == 1 || x.Mode == 2) && len(x.Offset) == 0
}

func sameBody(a, b []api.Instr) bool {
	return slices.EqualFunc(a, b, func(x, y api.Instr) bool {
		return x.Op == y.Op && x.A == y.A && x.B == y.B && x.K == y.K && slices.Equal(x.L, y.L)
	})
}

// same: do two modules say the same, a list nil or empty alike?
func same(a, b api.Module) bool {
	return slices.EqualFunc(a.Types, b.Types, func(x, y api.FuncType) bool {
		return slices.Equal(x.Params, y.Params) && slices.Equal(x.Results, y.Results)
	}) &&
		slices.Equal(a.Imports, b.Imports) && slices.Equal(a.Tables, b.Tables) && slices.Equal(a.Mems, b.Mems) &&
		slices.Equal(a.Exports, b.Exports) && slices.Equal(a.Starts, b.Starts) && slices.Equal(a.Counts, b.Counts) &&
		slices.EqualFunc(a.Funcs, b.Funcs, func(x, y api.Func) bool {
			return x.Type == y.Type && slices.Equal(x.Locals, y.Locals) && sameBody(x.Body, y.Body)
		}) &&
		slices.EqualFunc(a.Globals, b.Globals, func(x, y api.Global) bool {
			return x.Type == y.Type && x.Mutable == y.Mutable && sameBody(x.Init, y.Init)
		}) &&
		slices.EqualFunc(a.Elems, b.Elems, func(x, y api.Elem) bool {
			return x.Mode == y.Mode && sameBody(x.Offset, y.Offset) && slices.Equal(x.Funcs, y.Funcs)
		}) &&
		slices.EqualFunc(a.Datas, b.Datas, func(x, y api.Data) bool {
			return x.Mode == y.Mode && sameBody(x.Offset, y.Offset) && bytes.Equal(x.Bytes, y.Bytes)
		}) &&
		slices.EqualFunc(a.Customs, b.Customs, func(x, y api.Custom) bool {
			return x.Name == y.Name && bytes.Equal(x.Bytes, y.Bytes)
		})
}

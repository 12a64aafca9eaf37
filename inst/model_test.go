package inst_test

import (
	"math/big"
	"slices"
	"testing"

	"trammel/api"
	"trammel/ctx"
	"trammel/inst"
)

// none is what a Grow answers that is refused.
const none = 4294967295

// modelFits holds each thing that may not be against what is given.
func modelFits(x api.Import, g api.Given) bool {
	most := 0
	switch x.Kind {
	default:
		return false
	case 3:
		high := x.Type == 0x7f && g.Value>>32 != 0
		return x.Type == g.Type && x.Mutable == g.Mutable && !high
	case 1:
		most = 64
	case 2:
		most = 4
	}
	wrong := []bool{
		g.Size < 0, g.Size < x.Limits.Min, g.Size > most,
		x.Limits.Capped && !g.Capped, x.Limits.Capped && g.Max > x.Limits.Max,
		g.Capped && g.Size > g.Max,
	}
	return !slices.Contains(wrong, true)
}

// within: are there n places from one on among so many? In numbers without end.
func within(many int, from, n uint64) bool {
	end := new(big.Int).SetUint64(from)
	end.Add(end, new(big.Int).SetUint64(n))
	return end.Cmp(big.NewInt(int64(many))) <= 0
}

// modelLay lays one thing behind the other.
func modelLay[T any](over, of []T, at, from, n uint64) ([]T, bool) {
	if !within(len(over), at, n) || !within(len(of), from, n) {
		return nil, false
	}
	var l []T
	for i, x := range over {
		if j := uint64(i); j >= at && j-at < n {
			x = of[from+j-at]
		}
		l = append(l, x)
	}
	return l, true
}

func modelGrow(s api.Store, n uint64, ok bool) (api.Store, uint64) {
	whole := 0
	for len(s.Memory)-whole*65536 >= 65536 {
		whole++
	}
	then := new(big.Int).SetUint64(n)
	then.Add(then, big.NewInt(int64(whole)))
	if !ok || then.Cmp(big.NewInt(int64(s.Cap))) > 0 || then.Cmp(big.NewInt(4)) > 0 {
		return s, none
	}
	for range n {
		s.Memory = slices.Concat(s.Memory, make([]byte, 65536))
	}
	return s, uint64(whole)
}

// modelSetup looks at each import by itself, and each segment entry by entry.
func modelSetup(m api.Module, gives []api.Given) (api.Store, int, api.Errno) {
	if _, e := ctx.Of(m); e != 0 {
		return api.Store{}, 0, 5
	}
	var s api.Store
	next := 0
	for _, x := range m.Imports {
		if x.Kind == 0 {
			continue
		}
		if next == len(gives) || !modelFits(x, gives[next]) {
			return api.Store{}, 0, 5
		}
		g := gives[next]
		next++
		switch x.Kind {
		case 1:
			s.Table = slices.Repeat([]int{-1}, g.Size)
		case 2:
			s.Memory, s.Cap = make([]byte, g.Size*65536), modelCap(g.Capped, g.Max)
		case 3:
			s.Globals = append(s.Globals, g.Value)
		}
	}
	if next != len(gives) {
		return api.Store{}, 0, 5
	}
	for _, l := range m.Tables {
		s.Table = slices.Repeat([]int{-1}, l.Min)
	}
	for _, l := range m.Mems {
		s.Memory, s.Cap = make([]byte, l.Min*65536), modelCap(l.Capped, l.Max)
	}
	given := slices.Clone(s.Globals)
	for _, x := range m.Globals {
		s.Globals = append(s.Globals, modelNumber(given, x.Init[0]))
	}
	return modelSegments(s, given, m)
}

func modelCap(capped bool, most int) int {
	if !capped || most > 4 {
		return 4
	}
	return most
}

func modelNumber(given []uint64, x api.Instr) uint64 {
	n := new(big.Int).Lsh(big.NewInt(1), 64)
	if x.Op == 0x41 {
		n.SetUint64(1 << 32)
	}
	if x.Op == 0x23 {
		return given[x.A]
	}
	return n.Mod(big.NewInt(x.K), n).Uint64()
}

func modelSegments(s api.Store, given []uint64, m api.Module) (api.Store, int, api.Errno) {
	ok := true
	for _, x := range m.Elems {
		if x.Mode == 0 {
			s.Table, ok = modelLay(s.Table, x.Funcs, modelNumber(given, x.Offset[0]), 0, uint64(len(x.Funcs)))
		}
		if !ok {
			return api.Store{}, 3, 0
		}
		s.Elems = append(s.Elems, x.Mode != 1)
	}
	for _, x := range m.Datas {
		if x.Mode == 0 {
			s.Memory, ok = modelLay(s.Memory, x.Bytes, modelNumber(given, x.Offset[0]), 0, uint64(len(x.Bytes)))
		}
		if !ok {
			return api.Store{}, 2, 0
		}
		s.Datas = append(s.Datas, x.Mode != 1)
	}
	return s, 0, 0
}

// same: do two stores hold the same, a list nil or empty alike?
func same(a, b api.Store) bool {
	return slices.Equal(a.Memory, b.Memory) && a.Cap == b.Cap && slices.Equal(a.Table, b.Table) &&
		slices.Equal(a.Globals, b.Globals) && slices.Equal(a.Elems, b.Elems) && slices.Equal(a.Datas, b.Datas)
}

// brief tells of a memory no more than its length and where it isn't 0.
func brief(s api.Store) (int, map[int]byte, api.Store) {
	filled := map[int]byte{}
	for i, x := range s.Memory {
		if x != 0 && len(filled) < 20 {
			filled[i] = x
		}
	}
	many := len(s.Memory)
	s.Memory = nil
	return many, filled, s
}

// setup holds Setup against the model.
func setup(t *testing.T, m api.Module, gives []api.Given) (api.Store, int, api.Errno) {
	t.Helper()
	s, trap, e := inst.Setup(m, gives)
	want, wantTrap, wantE := modelSetup(m, gives)
	if !same(s, want) || trap != wantTrap || e != wantE {
		n, filled, rest := brief(s)
		n2, filled2, rest2 := brief(want)
		t.Errorf("Setup(%+v, %+v) = %d %v %+v, %d, %d; want %d %v %+v, %d, %d", m, gives, n, filled, rest, trap, e, n2, filled2, rest2, wantTrap, wantE)
	}
	return s, trap, e
}

// begins holds a store against what is written out: its memory's length, and what isn't 0 there.
func begins(t *testing.T, m api.Module, gives []api.Given, pages int, filled map[int]byte, want api.Store) {
	t.Helper()
	s, trap, e := setup(t, m, gives)
	want.Memory = make([]byte, pages*65536)
	for i, x := range filled {
		want.Memory[i] = x
	}
	if !same(s, want) || trap != 0 || e != 0 {
		n, at, rest := brief(s)
		t.Errorf("Setup(%+v, %+v) = %d %v %+v, %d, %d; want %v %+v", m, gives, n, at, rest, trap, e, filled, want.Table)
	}
}

// fails: no store, but a trap or an error.
func fails(t *testing.T, m api.Module, gives []api.Given, trap int, e api.Errno) {
	t.Helper()
	s, gotTrap, got := setup(t, m, gives)
	if s.Memory != nil || s.Cap != 0 || s.Table != nil || s.Globals != nil || s.Elems != nil || s.Datas != nil || gotTrap != trap || got != e {
		n, at, rest := brief(s)
		t.Errorf("Setup(%+v, %+v) = %d %v %+v, %d, %d; want %d, %d", m, gives, n, at, rest, gotTrap, got, trap, e)
	}
}

func expr(op int, k int64) []api.Instr { return []api.Instr{{Op: op, K: k}, {Op: api.End}} }

func at(k int64) []api.Instr { return expr(api.Const32, k) }

func get(g int) []api.Instr { return []api.Instr{{Op: api.GlobalGet, A: g}, {Op: api.End}} }

func limits(least int) api.Limits { return api.Limits{Min: least} }

func capped(least, most int) api.Limits { return api.Limits{Min: least, Capped: true, Max: most} }

func size(n int) api.Given { return api.Given{Size: n} }

func sizeTo(n, most int) api.Given { return api.Given{Size: n, Capped: true, Max: most} }

func value(n uint64) api.Given { return api.Given{Type: api.I32, Value: n} }

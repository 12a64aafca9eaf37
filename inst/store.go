package inst

import (
	"slices"

	"trammel/api"
)

// null is an entry of a table at which no function stands.
const null = -1

// begin a right module's store, into which no segment is laid yet, with what fits its imports.
func begin(m api.Module, asked []api.Import, gives []api.Given) api.Store {
	var s api.Store
	for i, x := range asked {
		switch x.Kind {
		case api.Tab:
			table(&s, gives[i])
		case api.Mem:
			memory(&s, gives[i])
		case api.Glo:
			s.Globals = append(s.Globals, gives[i].Value)
		}
	}
	for _, l := range m.Tables {
		table(&s, least(l))
	}
	for _, l := range m.Mems {
		memory(&s, least(l))
	}
	for _, x := range m.Globals {
		s.Globals = append(s.Globals, constant(s, x.Init))
	}
	return s
}

// least that limits take: what a module's own table or memory has at first.
func least(l api.Limits) api.Given { return api.Given{Size: l.Min, Capped: l.Capped, Max: l.Max} }

func table(s *api.Store, g api.Given) { s.Table = slices.Repeat([]int{null}, g.Size) }

func memory(s *api.Store, g api.Given) {
	s.Memory, s.Cap = make([]byte, g.Size*api.Page), api.MaxPages
	if g.Capped {
		s.Cap = min(s.Cap, g.Max)
	}
}

// constant's number. A global that a constant names is imported, so it has its number ahead of all
// constants.
func constant(s api.Store, l []api.Instr) uint64 {
	switch x := l[0]; x.Op {
	case api.Const32:
		return uint64(uint32(x.K))
	case api.GlobalGet:
		return s.Globals[x.A]
	default:
		return uint64(x.K)
	}
}

// fill a store with a right module's segments, up to the first that doesn't fit: that one's trap.
func fill(s *api.Store, m api.Module) int {
	for _, x := range m.Elems {
		if x.Mode == api.Active && !lay(s.Table, x.Funcs, constant(*s, x.Offset), 0, uint64(len(x.Funcs))) {
			return api.TrapTable
		}
		s.Elems = append(s.Elems, x.Mode != api.Passive)
	}
	for _, x := range m.Datas {
		if x.Mode == api.Active && !lay(s.Memory, x.Bytes, constant(*s, x.Offset), 0, uint64(len(x.Bytes))) {
			return api.TrapMemory
		}
		s.Datas = append(s.Datas, x.Mode != api.Passive)
	}
	return api.TrapNone
}

// lay n of a list, from one place on, over those of another one from a place on, if both have so
// many there.
func lay[T any](over, of []T, at, from, n uint64) bool {
	if !has(len(over), at, n) || !has(len(of), from, n) {
		return false
	}
	copy(over[at:], of[from:from+n])
	return true
}

// has a list of a size n places from one on? The sum of the two could go round.
func has(size int, from, n uint64) bool {
	most := uint64(size)
	return from <= most && n <= most-from
}

// anew is the same store in memory of its own.
func anew(s api.Store) api.Store {
	s.Memory = append([]byte(nil), s.Memory...)
	s.Table = append([]int(nil), s.Table...)
	s.Globals = append([]uint64(nil), s.Globals...)
	s.Elems = append([]bool(nil), s.Elems...)
	s.Datas = append([]bool(nil), s.Datas...)
	return s
}

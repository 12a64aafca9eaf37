package sect

import (
	"bytes"
	"slices"
	"testing"

	"trammel/api"
)

// model splits bytes in the chapter's words, one byte after the other, and shares no step with
// the package: sizes are added up, and a section is held against each one ahead of it.
type model struct {
	b    []byte
	at   int
	list []Sect
	e    api.Errno
}

func split(b []byte) ([]Sect, api.Errno) {
	if len(b) > 65536 {
		return nil, api.ErrLong
	}
	m := &model{b: b}
	for _, want := range []int{0, 0x61, 0x73, 0x6d, 1, 0, 0, 0} {
		if m.next() != want {
			m.fail(api.ErrForm)
		}
	}
	for m.e == api.OK && m.at < len(m.b) {
		m.section()
	}
	return m.list, m.e
}

func (m *model) fail(e api.Errno) {
	if m.e == api.OK {
		m.e = e
	}
}

func (m *model) next() int {
	if m.at == len(m.b) {
		m.fail(api.ErrShort)
		return 0
	}
	m.at++
	return int(m.b[m.at-1])
}

func (m *model) section() {
	s := Sect{ID: m.next()}
	if !mayStand(m.list, s.ID) {
		m.fail(api.ErrForm)
		return
	}
	for size := m.size(); m.e == api.OK && len(s.B) < size; {
		s.B = append(s.B, byte(m.next()))
	}
	if m.e == api.OK {
		m.list = append(m.list, s)
	}
}

func (m *model) size() int {
	sum, weight := 0, 1
	for range 5 {
		digit := m.next()
		sum += digit % 128 * weight
		weight *= 128
		if digit < 128 {
			if sum > 4294967295 {
				m.fail(api.ErrForm)
			}
			return sum
		}
	}
	m.fail(api.ErrForm)
	return 0
}

// mayStand: is there such a number, and may it stand behind each of these?
func mayStand(ahead []Sect, id int) bool {
	if id < 0 || id > 12 {
		return false
	}
	for _, s := range ahead {
		if s.ID != 0 && id != 0 && weight(s.ID) >= weight(id) {
			return false
		}
	}
	return true
}

// weight of a number, by which 12 lies between 9 and 10.
func weight(id int) int {
	if id == 12 {
		return 19
	}
	return 2 * id
}

// join lays sections whose numbers stand in order, with sizes of one to three bytes.
func join(l []Sect) []byte {
	b := []byte{0, 0x61, 0x73, 0x6d, 1, 0, 0, 0}
	for _, s := range l {
		b = append(b, byte(s.ID))
		switch n := len(s.B); {
		case n < 128:
			b = append(b, byte(n))
		case n < 16384:
			b = append(b, byte(n%128+128), byte(n/128))
		default:
			b = append(b, byte(n%128+128), byte(n/128%128+128), byte(n/16384))
		}
		b = append(b, s.B...)
	}
	return b
}

func inOrder(l []Sect) bool {
	for i, s := range l {
		if !mayStand(l[:i], s.ID) {
			return false
		}
	}
	return true
}

func same(a, b []Sect) bool {
	return slices.EqualFunc(a, b, func(x, y Sect) bool { return x.ID == y.ID && bytes.Equal(x.B, y.B) })
}

func splits(t *testing.T, b []byte, want []Sect, e api.Errno) {
	t.Helper()
	if l, f := Split(b); !same(l, want) || f != e {
		t.Errorf("Split(%s) = %s, %d; want %s, %d", brief(b), tell(l), f, tell(want), e)
	}
}

func againstModel(t *testing.T, b []byte) {
	t.Helper()
	want, e := split(b)
	splits(t, b, want, e)
}

// joins holds Join against the model, and reads again what was joined.
func joins(t *testing.T, l []Sect) {
	t.Helper()
	var want []byte
	e := api.ErrForm
	if inOrder(l) {
		want, e = join(l), api.OK
	}
	if len(want) > 65536 {
		want, e = nil, api.ErrLong
	}
	b, f := Join(l)
	if !bytes.Equal(b, want) || f != e {
		t.Errorf("Join(%s) = %s, %d; want %s, %d", tell(l), brief(b), f, brief(want), e)
	}
	if e == api.OK {
		splits(t, b, l, api.OK)
	}
}

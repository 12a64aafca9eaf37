package load

import (
	"bytes"
	"slices"
	"strings"
	"testing"

	"trammel/api"
	"trammel/ctx"
	"trammel/mod"
	"trammel/valid"
)

// model asks the layers below all that they tell, and takes the first error.
func model(b []byte) (api.Module, api.Ctx, int, api.Errno) {
	m, decoding := mod.Decode(b)
	c, parts := ctx.Of(m)
	bodies := valid.All(c, m)
	for i, e := range []api.Errno{decoding, parts, bodies} {
		switch {
		case e == 0:
		case e == 3 || e == 4:
			return api.Module{}, api.Ctx{}, 2, e
		case i == 0:
			return api.Module{}, api.Ctx{}, 1, e
		default:
			return api.Module{}, api.Ctx{}, 3, e
		}
	}
	return m, c, 4, 0
}

// holds Load against the model, and what it accepts against what it says again.
func holds(t *testing.T, b []byte) int {
	t.Helper()
	wantM, wantC, wantV, wantE := model(b)
	kept := bytes.Clone(b)
	m, c, v, e := Load(b)
	if v != wantV || e != wantE || !alike(m, wantM) || !alike(c, wantC) {
		t.Errorf("Load(%s) = %s, %s, %d, %d; want %s, %s, %d, %d", brief(b), tell(m), tell(c), v, e, tell(wantM), tell(wantC), wantV, wantE)
	}
	if !bytes.Equal(b, kept) {
		t.Errorf("Load changed %s", brief(kept))
	}
	if v == api.Accepted {
		again(t, b, m, c)
	}
	return v
}

// again: P11.3 of bytes that were accepted.
func again(t *testing.T, b []byte, m api.Module, c api.Ctx) {
	t.Helper()
	short, e := mod.Encode(m)
	if e != api.OK || len(short) > len(b) {
		t.Errorf("Encode of Load(%s) = %s, %d", brief(b), brief(short), e)
	}
	n, d, v, e := Load(short)
	if v != api.Accepted || e != api.OK || !Same(m, n) || !Same(n, m) || !alike(m, n) || !alike(c, d) {
		t.Errorf("Load(%s) = %s, %s, %d, %d; want %s, %s", brief(short), tell(n), tell(d), v, e, tell(m), tell(c))
	}
	if twice, e := mod.Encode(n); e != api.OK || !bytes.Equal(twice, short) {
		t.Errorf("Encode of Load(%s) = %s, %d", brief(short), brief(twice), e)
	}
}

func refuses(t *testing.T, b []byte, v int, e api.Errno) {
	t.Helper()
	if m, c, w, f := Load(b); w != v || f != e || !alike(m, api.Module{}) || !alike(c, api.Ctx{}) {
		t.Errorf("Load(%s) = %s, %s, %d, %d; want nothing, %d, %d", brief(b), tell(m), tell(c), w, f, v, e)
	}
	holds(t, b)
}

func accepts(t *testing.T, b []byte, m api.Module, c api.Ctx) {
	t.Helper()
	n, d, v, e := Load(b)
	if v != api.Accepted || e != api.OK || !alike(n, m) || !alike(d, c) || !Same(n, m) {
		t.Errorf("Load(%s) = %s, %s, %d, %d; want %s, %s", brief(b), tell(n), tell(d), v, e, tell(m), tell(c))
	}
	holds(t, b)
}

// one function without parameters and results, by its locals and body.
func one(code string) []byte {
	return whole([]part{{1, []string{"60 00 00"}}, {3, []string{"00"}}, {10, []string{code}}})
}

// P11.1: the examples, and what is accepted with all that it says.
func TestAccepted(t *testing.T) {
	accepts(t, begin(), api.Module{}, api.Ctx{})
	accepts(t, whole(world()), worldModule(), worldCtx())
	empty := []api.FuncType{{}}
	accepts(t, begin(sec(1, raw("01 60 00 00"))), api.Module{Types: empty}, api.Ctx{Types: empty})
	end := []api.Instr{{Op: 0x0b}}
	accepts(t, one("00 0b"), api.Module{Types: empty, Funcs: []api.Func{{Body: end}}}, api.Ctx{Types: empty, Funcs: []int{0}})
	accepts(t, begin(sec(12, []byte{0})), api.Module{Counts: []int{0}}, api.Ctx{Counted: true})
	accepts(t, begin(sec(5, raw("01 01 04 ff ff 03")), sec(11, raw("01 01 00"))),
		api.Module{Mems: []api.Limits{{Min: 4, Capped: true, Max: 65535}}, Datas: []api.Data{{Mode: 1}}}, api.Ctx{Mems: []api.Limits{{Min: 4, Capped: true, Max: 65535}}, Datas: 1})
	accepts(t, begin(sec(2, raw("02 01 61 00 01 70 00 40 00 01 62 02 00 04"))),
		api.Module{Imports: []api.Import{{Module: "a", Kind: 1, Limits: api.Limits{Min: 64}}, {Name: "b", Kind: 2, Limits: api.Limits{Min: 4}}}},
		api.Ctx{Tables: []api.Limits{{Min: 64}}, Mems: []api.Limits{{Min: 4}}})
	for id := range byte(12) {
		if id != 0 && id != 8 {
			accepts(t, begin(sec(id, []byte{0})), api.Module{}, api.Ctx{})
			accepts(t, begin(sec(id, []byte{0x80, 0x80, 0})), api.Module{}, api.Ctx{})
		}
	}
	refuses(t, nil, api.Malformed, api.ErrShort)
	refuses(t, []byte{}, api.Malformed, api.ErrShort)
	refuses(t, one("00 43 00 00 00 00 1a 0b"), api.Unsupported, api.ErrWide)
}

// P11.1: the first bytes cut and changed.
func TestBeginning(t *testing.T) {
	for i, x := range begin() {
		refuses(t, begin()[:i], api.Malformed, api.ErrShort)
		changed := begin()
		changed[i] = x ^ 0x80
		refuses(t, changed, api.Malformed, api.ErrForm)
		refuses(t, changed[:i+1], api.Malformed, api.ErrForm)
	}
}

// P11.1: each of the world's spoils by itself: each answer by each error that leads to it.
func TestSpoils(t *testing.T) {
	met := map[spoil]int{}
	for _, s := range spoils() {
		parts := world()
		s.do(parts)
		refuses(t, whole(parts), s.v, s.e)
		met[spoil{v: s.v, e: s.e}]++
	}
	for _, way := range []spoil{
		{v: api.Malformed, e: api.ErrShort}, {v: api.Malformed, e: api.ErrForm},
		{v: api.Unsupported, e: api.ErrWide}, {v: api.Unsupported, e: api.ErrLong},
		{v: api.Invalid, e: api.ErrArg}, {v: api.Invalid, e: api.ErrType}, {v: api.Invalid, e: api.ErrIndex}, {v: api.Invalid, e: api.ErrTwice},
	} {
		if met[way] == 0 {
			t.Errorf("%d, %d wasn't met", way.v, way.e)
		}
		delete(met, way)
	}
	if len(met) > 0 {
		t.Errorf("no ways: %v", met)
	}
}

// P11.1: of two spoils the first one decides: of the decoding ahead of what the parts say, and
// this ahead of the bodies, wherever their bytes stand.
func TestFirstError(t *testing.T) {
	l := spoils()
	for i, ahead := range l {
		for _, behind := range l[i+1:] {
			if ahead.id == behind.id && ahead.thing == behind.thing {
				continue
			}
			parts := world()
			behind.do(parts)
			ahead.do(parts)
			b := whole(parts)
			if _, _, v, e := Load(b); v != ahead.v || e != ahead.e {
				t.Errorf("of %v and %v: %d, %d", ahead, behind, v, e)
			}
			holds(t, b)
		}
	}
}

// P11.1: a section that isn't there, a later one that leans on it.
func TestMissing(t *testing.T) {
	for _, c := range []struct {
		id byte
		v  int
		e  api.Errno
	}{
		{1, api.Invalid, api.ErrIndex}, {2, api.Invalid, api.ErrType}, {3, api.Malformed, api.ErrForm}, {4, api.Invalid, api.ErrIndex}, {5, api.Invalid, api.ErrIndex},
		{6, api.Invalid, api.ErrIndex}, {9, api.Accepted, api.OK}, {7, api.Accepted, api.OK}, {8, api.Accepted, api.OK}, {12, api.Invalid, api.ErrIndex}, {10, api.Malformed, api.ErrForm}, {11, api.Malformed, api.ErrForm}, {0, api.Accepted, api.OK},
	} {
		parts := slices.DeleteFunc(world(), func(p part) bool { return p.id == c.id })
		b := whole(parts)
		if _, _, v, e := Load(b); v != c.v || e != c.e {
			t.Errorf("without %d: %d, %d; want %d, %d", c.id, v, e, c.v, c.e)
		}
		holds(t, b)
	}
	for _, ids := range [][]byte{{7, 4}, {7, 5}, {7, 4, 9}, {7, 5, 11}} {
		parts := slices.DeleteFunc(world(), func(p part) bool { return bytes.Contains(ids, []byte{p.id}) })
		b := whole(parts)
		if bytes.Contains(ids, []byte{11}) {
			refuses(t, b, api.Malformed, api.ErrForm)
		} else {
			refuses(t, b, api.Invalid, api.ErrIndex)
		}
	}
}

// P11.1: the greatest that is done, and one more.
func TestLimits(t *testing.T) {
	many := func(n int, x string) []string { return slices.Repeat([]string{x}, n) }
	names := func(n int) []string {
		var l []string
		for i := range n {
			l = append(l, "01"+string("0123456789abcdef"[2+i/16])+string("0123456789abcdef"[i%16])+"03 00")
		}
		return l
	}
	imported := part{2, []string{"00 00 03 7f 00"}}
	table, memory := part{4, []string{"70 00 40"}}, part{5, []string{"01 04 80 80 04"}}
	for i, grown := range []func(more int) []part{
		func(more int) []part { return []part{{1, many(64+more, "60 00 00")}} },
		func(more int) []part { return []part{{1, []string{"60 00 00"}}, {2, many(64+more, "00 00 00 00")}} },
		func(more int) []part {
			return []part{{1, []string{"60 00 00"}}, {3, many(64+more, "00")}, {10, many(64+more, "00 0b")}}
		},
		func(more int) []part { return []part{{6, many(64+more, "7e 01 42 00 0b")}} },
		func(more int) []part { return []part{imported, {7, names(64 + more)}} },
		func(more int) []part { return []part{table, {9, many(64+more, "00 41 00 0b 00")}} },
		func(more int) []part {
			return []part{{9, []string{"05 70" + hexByte(64+more) + strings.Repeat("d0 70 0b", 64+more)}}}
		},
		func(more int) []part { return []part{memory, {11, many(64+more, "00 41 00 0b 00")}} },
		func(more int) []part { return []part{{12, []string{hexByte(64 + more)}}, {11, many(64+more, "01 00")}} },
		func(more int) []part {
			return []part{{1, []string{"60" + hexByte(8+more) + strings.Repeat("7f", 8+more) + "00"}}}
		},
		func(more int) []part {
			return []part{{1, []string{"60 00" + hexByte(8+more) + strings.Repeat("7e", 8+more)}}}
		},
		func(more int) []part { return []part{{0, []string{hexByte(64+more) + strings.Repeat("41", 64+more)}}} },
		func(more int) []part { return []part{{4, []string{"70 00" + hexByte(64+more)}}} },
		func(more int) []part { return []part{{5, []string{"00" + hexByte(4+more)}}} },
		func(more int) []part { return []part{{2, []string{"00 00 02 00" + hexByte(4+more)}}} },
		func(more int) []part { return []part{{2, []string{"00 00 01 70 00" + hexByte(64+more)}}} },
		func(more int) []part {
			return []part{{1, []string{"60 02 7f 7e 00"}}, {3, []string{"00"}}, {10, []string{"01" + hexByte(62+more) + "7e 20 3f 1a 0b"}}}
		},
	} {
		b := whole(grown(0))
		if _, _, v, e := Load(b); v != api.Accepted || e != api.OK {
			t.Errorf("%d: %s: %d, %d", i, brief(b), v, e)
		}
		holds(t, b)
		refuses(t, whole(grown(1)), api.Unsupported, api.ErrLong)
	}
	for _, long := range []func(n int) string{
		func(n int) string { return "00" + strings.Repeat("01", n-1) + "0b" },
		func(n int) string {
			return "00" + strings.Repeat("41 00 1a", (n-1)/2) + strings.Repeat("01", (n-1)%2) + "0b"
		},
	} {
		if v := holds(t, one(long(2000))); v != api.Accepted {
			t.Error(v)
		}
		refuses(t, one(long(2001)), api.Unsupported, api.ErrLong)
	}
	deep := func(n int) string { return "00" + strings.Repeat("03 40", n) + strings.Repeat("0b", n+1) }
	labels := func(n int) string { return "00 41 00 0e" + hexByte(n) + strings.Repeat("00", n+1) + "0b" }
	locals := func(n int) string { return "01" + hexByte(n) + "7f 0b" }
	for _, grown := range []func(int) string{deep, labels, locals} {
		if v := holds(t, one(grown(64))); v != api.Accepted {
			t.Error(v)
		}
		refuses(t, one(grown(65)), api.Unsupported, api.ErrLong)
	}
}

func hexByte(n int) string {
	const digits = "0123456789abcdef"
	return string([]byte{digits[n/16], digits[n%16]})
}

// P11.1: 65,536 bytes are accepted, one more is too many, whatever they say.
func TestManyBytes(t *testing.T) {
	custom := func(n int) []byte { return begin(sec(0, make([]byte, n-8-4))) }
	data := func(n int) []byte {
		return begin(sec(11, slices.Concat([]byte{1, 1}, sized(make([]byte, n-8-4-2-3)))))
	}
	for _, grown := range []func(int) []byte{custom, data} {
		b := grown(65536)
		if v := holds(t, b); len(b) != 65536 || v != api.Accepted {
			t.Error(len(b), v)
		}
		refuses(t, grown(65537), api.Unsupported, api.ErrLong)
	}
	refuses(t, make([]byte, 65536), api.Malformed, api.ErrForm)
	refuses(t, make([]byte, 65537), api.Unsupported, api.ErrLong)
	refuses(t, slices.Concat(whole(world()), make([]byte, 65537)), api.Unsupported, api.ErrLong)
	refuses(t, make([]byte, 1<<24), api.Unsupported, api.ErrLong)
}

// P11.1: the world's bytes that end at each place.
func TestCuts(t *testing.T) {
	type end struct {
		v int
		e api.Errno
	}
	ok, uncoded := end{api.Accepted, api.OK}, end{api.Malformed, api.ErrForm}
	behind := map[byte]end{1: ok, 2: ok, 3: uncoded, 4: uncoded, 5: uncoded, 6: uncoded, 7: uncoded, 8: uncoded, 9: uncoded, 12: uncoded, 10: uncoded, 11: ok, 0: ok}
	ends := map[int]end{8: ok}
	at := 8
	for _, p := range world()[:13] {
		at += len(p.bytes())
		ends[at] = behind[p.id]
	}
	b := whole(world())
	for cut := range len(b) + 1 {
		want, whole := ends[cut]
		if !whole {
			refuses(t, b[:cut], api.Malformed, api.ErrShort)
			continue
		}
		if _, _, v, e := Load(b[:cut]); v != want.v || e != want.e {
			t.Errorf("cut at %d: %d, %d; want %v", cut, v, e, want)
		}
		holds(t, b[:cut])
	}
}

// P11.1, P11.3: each byte of the world changed to each other one, left out, and laid twice.
func TestChanges(t *testing.T) {
	b := whole(world())
	met := map[int]int{}
	for i, x := range b {
		for other := range 256 {
			changed := bytes.Clone(b)
			changed[i] = byte(other)
			met[holds(t, changed)]++
		}
		met[holds(t, slices.Delete(bytes.Clone(b), i, i+1))]++
		met[holds(t, slices.Insert(bytes.Clone(b), i, x))]++
	}
	for v := api.Malformed; v <= api.Accepted; v++ {
		if met[v] < 500 {
			t.Errorf("%d: %d times", v, met[v])
		}
	}
	if len(met) != 4 {
		t.Error(met)
	}
}

// P11.1: custom sections anywhere hide nothing and hinder nothing; they are told in order.
func TestCustoms(t *testing.T) {
	want := worldModule()
	x := part{0, []string{"02 79 79 0b ff", "00"}}
	said := []api.Custom{{Name: "yy", Bytes: []byte{0x0b, 0xff}}, {}}
	for i := range world() {
		m := want
		m.Customs = slices.Concat(said, want.Customs)
		if i == 13 {
			m.Customs = slices.Concat(want.Customs, said)
		}
		accepts(t, whole(slices.Insert(world(), i, x)), m, worldCtx())
		for _, s := range spoils() {
			parts := world()
			s.do(parts)
			refuses(t, whole(slices.Insert(parts, i, x)), s.v, s.e)
		}
	}
	everywhere := []part{x}
	want.Customs = slices.Clone(said)
	for i, p := range world() {
		everywhere = append(everywhere, p, x)
		if i == 12 {
			want.Customs = append(want.Customs, api.Custom{Name: "x", Bytes: []byte{7, 8}})
		}
		want.Customs = append(want.Customs, said...)
	}
	accepts(t, whole(everywhere), want, worldCtx())
}

package load

import (
	"bytes"
	"encoding/hex"
	"fmt"
	"reflect"
	"slices"
	"strings"

	"trammel/api"
	"trammel/leb"
)

// raw bytes of a text that has them in sixteen.
func raw(text string) []byte {
	b, err := hex.DecodeString(strings.ReplaceAll(text, " ", ""))
	if err != nil {
		panic(text)
	}
	return b
}

func begin(rest ...[]byte) []byte {
	return slices.Concat([]byte("\x00asm\x01\x00\x00\x00"), slices.Concat(rest...))
}

func sized(b []byte) []byte { return append(leb.PutU(nil, uint64(len(b))), b...) }

func sec(id byte, b []byte) []byte { return append([]byte{id}, sized(b)...) }

// tail is no section, but bytes behind the last one.
const tail = 255

// part is a section by its things, each in sixteen. Starts and Counts have one, each custom one is
// a section, a code's size is put ahead of it.
type part struct {
	id     byte
	things []string
}

func (p part) bytes() []byte {
	var l [][]byte
	for _, x := range p.things {
		switch b := raw(x); p.id {
		case 0:
			l = append(l, sec(0, b))
		case 10:
			l = append(l, sized(b))
		default:
			l = append(l, b)
		}
	}
	all := slices.Concat(l...)
	switch p.id {
	case 0, tail:
		return all
	case 8, 12:
		return sec(p.id, all)
	}
	return sec(p.id, append(leb.PutU(nil, uint64(len(l))), all...))
}

func whole(parts []part) []byte {
	b := begin()
	for _, p := range parts {
		b = append(b, p.bytes()...)
	}
	return b
}

// world is a module with something of everything. Its functions are h.f (0), 1, 2 and 3, its
// globals h.i (0), h.v (1), 2, 3 and 4.
func world() []part {
	return []part{
		{1, []string{"60 00 00", "60 01 7f 01 7f", "60 02 7f 7e 02 7e 7f"}},
		{2, []string{"01 68 01 66 00 01", "01 68 01 69 03 7f 00", "01 68 01 76 03 7e 01"}},
		{3, []string{"00", "01", "02"}},
		{4, []string{"70 01 04 08"}},
		{5, []string{"01 01 02"}},
		{6, []string{"7f 01 41 05 0b", "7f 00 23 00 0b", "7e 00 42 7f 0b"}},
		{7, []string{"01 66 00 02", "01 74 01 00", "01 6d 02 00", "01 67 03 04"}},
		{8, []string{"01"}},
		{9, []string{"00 41 00 0b 02 00 01", "01 00 01 02", "03 00 01 03", "04 23 00 0b 02 d2 03 0b d0 70 0b", "05 70 01 d0 70 0b", "07 70 02 d2 00 0b d0 70 0b"}},
		{12, []string{"02"}},
		{10, []string{"00 41 00 41 01 36 02 00 fc 09 01 0b", "01 01 7e 20 00 04 7f 41 07 05 20 00 10 00 0b 0b", "02 01 7f 01 7e 20 01 20 00 41 00 11 01 00 0b"}},
		{11, []string{"00 41 08 0b 02 aa bb", "01 01 cc"}},
		{0, []string{"01 78 07 08"}},
		{tail, nil},
	}
}

// worldModule is what the world's bytes say.
func worldModule() api.Module {
	const32 := func(k int64) []api.Instr { return []api.Instr{{Op: 0x41, K: k}, {Op: 0x0b}} }
	return api.Module{
		Types:   []api.FuncType{{}, {Params: []int{0x7f}, Results: []int{0x7f}}, {Params: []int{0x7f, 0x7e}, Results: []int{0x7e, 0x7f}}},
		Imports: []api.Import{{Module: "h", Name: "f", Type: 1}, {Module: "h", Name: "i", Kind: 3, Type: 0x7f}, {Module: "h", Name: "v", Kind: 3, Type: 0x7e, Mutable: true}},
		Funcs: []api.Func{
			{Body: []api.Instr{{Op: 0x41}, {Op: 0x41, K: 1}, {Op: 0x36, A: 2}, {Op: 0x109, A: 1}, {Op: 0x0b}}},
			{Type: 1, Locals: []int{0x7e}, Body: []api.Instr{{Op: 0x20}, {Op: 4, A: -1}, {Op: 0x41, K: 7}, {Op: 5}, {Op: 0x20}, {Op: 0x10}, {Op: 0x0b}, {Op: 0x0b}}},
			{Type: 2, Locals: []int{0x7f, 0x7e}, Body: []api.Instr{{Op: 0x20, A: 1}, {Op: 0x20}, {Op: 0x41}, {Op: 0x11, A: 1}, {Op: 0x0b}}},
		},
		Tables:  []api.Limits{{Min: 4, Capped: true, Max: 8}},
		Mems:    []api.Limits{{Min: 1, Capped: true, Max: 2}},
		Globals: []api.Global{{Type: 0x7f, Mutable: true, Init: const32(5)}, {Type: 0x7f, Init: []api.Instr{{Op: 0x23}, {Op: 0x0b}}}, {Type: 0x7e, Init: []api.Instr{{Op: 0x42, K: -1}, {Op: 0x0b}}}},
		Exports: []api.Export{{Name: "f", Index: 2}, {Name: "t", Kind: 1}, {Name: "m", Kind: 2}, {Name: "g", Kind: 3, Index: 4}},
		Starts:  []int{1},
		Elems: []api.Elem{{Offset: const32(0), Funcs: []int{0, 1}}, {Mode: 1, Funcs: []int{2}}, {Mode: 2, Funcs: []int{3}},
			{Offset: []api.Instr{{Op: 0x23}, {Op: 0x0b}}, Funcs: []int{3, -1}}, {Mode: 1, Funcs: []int{-1}}, {Mode: 2, Funcs: []int{0, -1}}},
		Counts:  []int{2},
		Datas:   []api.Data{{Offset: const32(8), Bytes: []byte{0xaa, 0xbb}}, {Mode: 1, Bytes: []byte{0xcc}}},
		Customs: []api.Custom{{Name: "x", Bytes: []byte{7, 8}}},
	}
}

func worldCtx() api.Ctx {
	return api.Ctx{
		Types: worldModule().Types, Funcs: []int{1, 0, 1, 2},
		Globals: []api.Var{{Type: 0x7f}, {Type: 0x7e, Mutable: true}, {Type: 0x7f, Mutable: true}, {Type: 0x7f}, {Type: 0x7e}},
		Tables:  []api.Limits{{Min: 4, Capped: true, Max: 8}}, Mems: []api.Limits{{Min: 1, Capped: true, Max: 2}},
		Hosts: 1, Vars: 2, Elems: 6, Datas: 2, Counted: true,
	}
}

// spoil lays one thing of a section anew, or one more behind them.
type spoil struct {
	id    byte
	thing int
	with  string
	v     int
	e     api.Errno
}

func (s spoil) do(parts []part) {
	for i, p := range parts {
		if p.id != s.id {
			continue
		}
		l := slices.Clone(p.things)
		if s.thing == len(l) {
			l = append(l, "")
		}
		l[s.thing] = s.with
		parts[i].things = l
	}
}

// spoils of the world, in the order in which they are told: of those that touch different things
// the one ahead hides the one behind it.
func spoils() []spoil {
	return slices.Concat(decodingSpoils(), partSpoils(), bodySpoils())
}

func decodingSpoils() []spoil {
	const none, wide = api.Malformed, api.Unsupported
	name65 := "41" + strings.Repeat("6e", 65)
	return []spoil{
		{1, 0, "61 00 00", none, api.ErrForm}, {1, 1, "60 01 7d 00", wide, api.ErrWide}, {1, 1, "60 00 09", wide, api.ErrLong}, {1, 2, "60 01 7a 00", none, api.ErrForm}, {1, 2, "60 01 7f", none, api.ErrShort},
		{2, 0, "01 ff 01 66 00 01", none, api.ErrForm}, {2, 1, "01 68 01 69 04 7f 00", none, api.ErrForm}, {2, 1, name65 + "00 03 7f 00", wide, api.ErrLong}, {2, 2, "01 68 01 76 03 7c 01", wide, api.ErrWide},
		{2, 3, "01 68 01 74 01 6f 00 01", wide, api.ErrWide}, {2, 3, "01 68 41 00", none, api.ErrShort},
		{3, 0, "ff ff ff ff 1f", none, api.ErrForm}, {3, 2, "82", none, api.ErrShort},
		{4, 0, "6f 00 01", wide, api.ErrWide}, {4, 0, "71 00 01", none, api.ErrForm},
		{5, 0, "02 01", none, api.ErrForm},
		{6, 0, "7f 02 41 05 0b", none, api.ErrForm}, {6, 1, "7f 00 43 00 00 00 00 0b", wide, api.ErrWide}, {6, 1, "7b 00 41 00 0b", wide, api.ErrWide}, {6, 2, "7f 00 05 0b", none, api.ErrForm},
		{7, 1, "01 74 04 00", none, api.ErrForm}, {7, 2, name65 + "02 00", wide, api.ErrLong}, {7, 3, "01 67 03", none, api.ErrShort},
		{8, 0, "81", none, api.ErrShort}, {8, 0, "01 00", none, api.ErrForm},
		{9, 0, "08 41 00 0b 02 00 01", none, api.ErrForm}, {9, 1, "02 01 41 00 0b 00 00", wide, api.ErrWide}, {9, 2, "03 01 01 03", none, api.ErrForm}, {9, 2, "01 00 41", wide, api.ErrLong}, {9, 4, "05 70 01 d1", wide, api.ErrWide}, {9, 5, "07 6f 00", wide, api.ErrWide},
		{12, 0, "02 02", none, api.ErrForm}, {12, 0, "", none, api.ErrShort},
		{10, 3, "00 0b", none, api.ErrForm}, {10, 0, "00 27 0b", none, api.ErrForm}, {10, 0, "00 0b 0b", none, api.ErrForm}, {10, 0, "00 01", none, api.ErrShort},
		{10, 1, "00 25 00 0b", wide, api.ErrWide}, {10, 1, "01 41 7f 0b", wide, api.ErrLong}, {10, 1, "00" + strings.Repeat("01", 2001), wide, api.ErrLong}, {10, 2, "00" + strings.Repeat("0240", 65), wide, api.ErrLong}, {10, 2, "00 0e 41", wide, api.ErrLong}, {10, 2, "00 fc 00 0b", wide, api.ErrWide},
		{12, 0, "03", none, api.ErrForm}, {12, 0, "01", none, api.ErrForm},
		{11, 0, "02 01 41 08 0b 00", wide, api.ErrWide}, {11, 0, "03 41 08 0b 00", none, api.ErrForm}, {11, 1, "01 02 cc", none, api.ErrShort}, {11, 1, "01 00 cc", none, api.ErrForm},
		{0, 0, "02 78", none, api.ErrShort}, {0, 0, name65, wide, api.ErrLong}, {0, 1, "01 80", none, api.ErrForm},
		{tail, 0, "0d 00", none, api.ErrForm}, {tail, 0, "01 01 00", none, api.ErrForm}, {tail, 0, "00 05 00", none, api.ErrShort}, {tail, 0, "00", none, api.ErrShort},
	}
}

func partSpoils() []spoil {
	const bad, wide = api.Invalid, api.Unsupported
	return []spoil{
		{2, 0, "01 68 01 66 00 03", bad, api.ErrIndex}, {2, 3, "01 68 01 74 01 70 01 02 01", bad, api.ErrArg}, {2, 3, "01 68 01 74 01 70 00 41", wide, api.ErrLong}, {2, 3, "01 68 01 6d 02 01 00 81 80 04", bad, api.ErrArg}, {2, 3, "01 68 01 6d 02 00 05", wide, api.ErrLong},
		{3, 0, "03", bad, api.ErrIndex}, {3, 1, "ff ff ff ff 0f", bad, api.ErrIndex}, {3, 2, "03", bad, api.ErrIndex},
		{4, 0, "70 01 05 04", bad, api.ErrArg}, {4, 0, "70 00 41", wide, api.ErrLong},
		{5, 0, "01 02 01", bad, api.ErrArg}, {5, 0, "00 81 80 04", bad, api.ErrArg}, {5, 0, "00 05", wide, api.ErrLong},
		{4, 1, "70 00 01", wide, api.ErrWide}, {5, 1, "00 01", bad, api.ErrTwice},
		{6, 0, "7f 01 42 05 0b", bad, api.ErrType}, {6, 1, "7f 00 23 02 0b", bad, api.ErrType}, {6, 2, "7e 00 23 01 0b", bad, api.ErrType}, {6, 2, "7e 00 0b", bad, api.ErrType},
		{7, 0, "01 66 00 04", bad, api.ErrIndex}, {7, 1, "01 66 01 00", bad, api.ErrTwice}, {7, 2, "01 6d 02 01", bad, api.ErrIndex}, {7, 3, "01 74 03 04", bad, api.ErrTwice},
		{8, 0, "04", bad, api.ErrIndex}, {8, 0, "02", bad, api.ErrType},
		{9, 0, "00 42 00 0b 02 00 01", bad, api.ErrType}, {9, 1, "01 00 01 04", bad, api.ErrIndex}, {9, 3, "04 23 00 0b 02 d2 04 0b d0 70 0b", bad, api.ErrIndex}, {9, 5, "07 70 02 d0 70 0b d2 04 0b", bad, api.ErrIndex},
		{11, 0, "00 23 01 0b 02 aa bb", bad, api.ErrType}, {11, 1, "00 42 00 0b 01 cc", bad, api.ErrType},
		{10, 1, "01 40 7e 20 00 0b", wide, api.ErrLong}, {10, 2, "01 3f 7e 20 01 20 00 0b", wide, api.ErrLong},
	}
}

func bodySpoils() []spoil {
	const bad = api.Invalid
	return []spoil{
		{10, 0, "00 20 00 1a 0b", bad, api.ErrIndex}, {10, 0, "00 1a 0b", bad, api.ErrType}, {10, 0, "00 41 00 24 03 0b", bad, api.ErrArg}, {10, 0, "00 41 00 28 03 00 1a 0b", bad, api.ErrArg},
		{10, 1, "00 20 00 0c 01 0b", bad, api.ErrIndex}, {10, 1, "00 20 00 24 00 20 00 0b", bad, api.ErrArg}, {10, 1, "00 20 00 20 00 0b", bad, api.ErrType},
		{10, 2, "00 0b", bad, api.ErrType}, {10, 2, "00 fc 0d 06 00 0b", bad, api.ErrIndex}, {10, 2, "00 20 01 20 00 10 04 0b", bad, api.ErrIndex}, {10, 2, "00 20 00 20 01 0b", bad, api.ErrType},
	}
}

func brief(b []byte) string {
	if len(b) > 400 {
		return fmt.Sprintf("% x .. (%d bytes)", b[:400], len(b))
	}
	return fmt.Sprintf("% x", b)
}

// tell a thing in so many letters that a failure can be read.
func tell(x any) string {
	s := strings.ToValidUTF8(fmt.Sprintf("%+v", x), "?")
	if len(s) > 2000 {
		return s[:2000] + " .."
	}
	return s
}

// alike: are two things the same, a list that is nil and an empty one taken for the same?
func alike(a, b any) bool { return alikeValues(reflect.ValueOf(a), reflect.ValueOf(b)) }

func alikeValues(a, b reflect.Value) bool {
	switch a.Kind() {
	case reflect.Slice:
		if a.Len() != b.Len() {
			return false
		}
		if x, ok := a.Interface().([]byte); ok {
			return bytes.Equal(x, b.Bytes())
		}
		for i := range a.Len() {
			if !alikeValues(a.Index(i), b.Index(i)) {
				return false
			}
		}
		return true
	case reflect.Struct:
		for i := range a.NumField() {
			if !alikeValues(a.Field(i), b.Field(i)) {
				return false
			}
		}
		return true
	}
	return a.Equal(b)
}

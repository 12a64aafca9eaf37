package utf

import (
	"bytes"
	"slices"
	"strings"
	"testing"

	"trammel/api"
)

// bits writes a number of so many bytes as the chapter says, whether or not the number is a
// character and needs them: 0 and seven bits, or a mark and what is left, six bits a byte.
func bits(c, size int) string {
	if size == 1 {
		return string([]byte{byte(c)})
	}
	b := make([]byte, size)
	for i := size - 1; i > 0; i-- {
		b[i] = byte(0x80 | c&0x3f)
		c >>= 6
	}
	b[0] = byte(0xff00>>size | c)
	return string(b)
}

func need(c int) int {
	switch {
	case c <= 0x7f:
		return 1
	case c <= 0x7ff:
		return 2
	case c <= 0xffff:
		return 3
	}
	return 4
}

func isCharacter(c int) bool {
	return c >= 0 && c <= 0x10ffff && (c < 0xd800 || c > 0xdfff)
}

// forms is every form that there is. A text is held against them without reading a bit of it.
func forms() map[string]struct{} {
	all := make(map[string]struct{}, 0x110000)
	for c := 0; c <= 0x10ffff; c++ {
		if isCharacter(c) {
			all[bits(c, need(c))] = struct{}{}
		}
	}
	return all
}

// model tells whether a text can be cut into forms, whatever the places of the cuts are.
func model(all map[string]struct{}, s string) bool {
	reached := make([]bool, len(s)+1)
	reached[0] = true
	for i := range len(s) {
		for size := 1; reached[i] && size <= 4 && i+size <= len(s); size++ {
			if _, ok := all[s[i:i+size]]; ok {
				reached[i+size] = true
			}
		}
	}
	return reached[len(s)]
}

// P2.1: the examples, and the edges that the chapter names, written out.
func TestValid(t *testing.T) {
	for _, s := range []string{
		"", "a", "abc", "a name, of some bytes", "\x00", "\x7f",
		"\xc2\x80", "\xc3\xa9", "\xdf\xbf",
		"\xe0\xa0\x80", "\xed\x9f\xbf", "\xee\x80\x80", "\xef\xbf\xbd", "\xef\xbf\xbe", "\xef\xbf\xbf",
		"\xf0\x90\x80\x80", "\xf4\x8f\xbf\xbf",
		"a\xc3\xa9\xe2\x82\xac\xf0\x9f\x98\x80z", strings.Repeat("\xf4\x8f\xbf\xbf", 1000),
	} {
		if !Valid(s) {
			t.Errorf("% x is not valid", s)
		}
	}
	for _, s := range []string{
		"\x80", "\xbf", "a\x80", "\xc3\xa9\xa9",
		"\xc0\x80", "\xc1\xbf", "\xe0\x80\x80", "\xe0\x9f\xbf", "\xf0\x80\x80\x80", "\xf0\x8f\xbf\xbf",
		"\xed\xa0\x80", "\xed\xaf\xbf", "\xed\xb0\x80", "\xed\xbf\xbf", "\xed\xa0\xbd\xed\xb8\x80",
		"\xf4\x90\x80\x80", "\xf5\x80\x80\x80", "\xf7\xbf\xbf\xbf",
		"\xf8\x88\x80\x80\x80", "\xfb\xbf\xbf\xbf\xbf", "\xfc\x84\x80\x80\x80\x80", "\xfe", "\xff",
		"\xc3", "\xe2\x82", "\xe2", "\xf0\x9f\x98", "\xf0\x9f", "\xf0",
		"\xc3a", "\xe2\x82a", "\xf0\x9f\x98a", "\xc3\xc3\xa9", "\xe2\xc3\xa9", "\xe2\x82\xc0",
		strings.Repeat("a", 1000) + "\xff", "\xff" + strings.Repeat("a", 1000),
	} {
		if Valid(s) {
			t.Errorf("% x is valid", s)
		}
	}
}

// P2.1: every number up to the greatest that four bytes can say, in as many bytes as it
// needs and in more; and each form cut, and with a byte of its beginning gone.
func TestValidNumbers(t *testing.T) {
	for c := range 0x200000 {
		size := need(c)
		s := bits(c, size)
		if Valid(s) != isCharacter(c) {
			t.Fatalf("%x in % x: %t", c, s, Valid(s))
		}
		for cut := 1; cut < size; cut++ {
			if Valid(s[:cut]) || Valid(s[cut:]) {
				t.Fatalf("% x, cut at %d, is valid", s, cut)
			}
		}
		for more := size + 1; more <= 6; more++ {
			if long := bits(c, more); Valid(long) {
				t.Fatalf("%x in % x is valid", c, long)
			}
		}
	}
}

// P2.1: all texts of one and two bytes; of three and four bytes those of any first byte with
// bytes behind it at which some form's range begins or ends.
func TestValidShortTexts(t *testing.T) {
	all := forms()
	against := func(b ...byte) {
		if s := string(b); Valid(s) != model(all, s) {
			t.Fatalf("% x: %t", b, Valid(s))
		}
	}
	edges := []byte{0, 0x41, 0x7f, 0x80, 0x8f, 0x90, 0x9f, 0xa0, 0xbf, 0xc0, 0xc2, 0xdf, 0xe0, 0xed, 0xf0, 0xf4, 0xf5, 0xff}
	for i := range 256 {
		a := byte(i)
		against(a)
		for j := range 256 {
			against(a, byte(j))
		}
		for _, b := range edges {
			for _, c := range edges {
				against(a, b, c)
				for _, d := range edges {
					against(a, b, c, d)
				}
			}
		}
	}
}

type named struct {
	s    string
	size int
	e    api.Errno
}

func sameName(t *testing.T, b []byte, want named) {
	t.Helper()
	if s, size, e := Name(b); s != want.s || size != want.size || e != want.e {
		t.Errorf("Name(% x) = %q, %d, %d; want %q, %d, %d", b, s, size, e, want.s, want.size, want.e)
	}
}

func tell(length ...byte) func(string) []byte {
	return func(s string) []byte { return append(slices.Clone(length), s...) }
}

// P2.2: names that are read, their lengths told in as many bytes as they need and in more.
func TestNameRead(t *testing.T) {
	full := strings.Repeat("a", 64)
	wide := strings.Repeat("\xf4\x8f\xbf\xbf", 16)
	for _, c := range []struct {
		b    []byte
		want named
	}{
		{tell(0)(""), named{"", 1, api.OK}},
		{tell(0)("abc"), named{"", 1, api.OK}},
		{tell(0)("\xff"), named{"", 1, api.OK}},
		{tell(1)("a"), named{"a", 2, api.OK}},
		{tell(1)("ab"), named{"a", 2, api.OK}},
		{tell(1)("a\xff"), named{"a", 2, api.OK}},
		{tell(1)("\x00"), named{"\x00", 2, api.OK}},
		{tell(2)("\xc3\xa9\x80"), named{"\xc3\xa9", 3, api.OK}},
		{tell(63)(full), named{full[:63], 64, api.OK}},
		{tell(64)(full), named{full, 65, api.OK}},
		{tell(64)(full + "a"), named{full, 65, api.OK}},
		{tell(64)(wide), named{wide, 65, api.OK}},
		{tell(0x83, 0)("abcd"), named{"abc", 5, api.OK}},
		{tell(0x83, 0x80, 0x80, 0x80, 0)("abcd"), named{"abc", 8, api.OK}},
		{tell(0x80, 0x80, 0x80, 0x80, 0)(""), named{"", 5, api.OK}},
		{tell(0xc0, 0)(full), named{full, 66, api.OK}},
	} {
		sameName(t, c.b, c.want)
	}
}

// P2.2: names that are refused, each by the first of the errors that apply.
func TestNameRefused(t *testing.T) {
	long := strings.Repeat("a", 65)
	far := strings.Repeat("a", 300)
	for _, c := range []struct {
		b []byte
		e api.Errno
	}{
		{nil, api.ErrShort},
		{[]byte{}, api.ErrShort},
		{tell(0x80)(""), api.ErrShort},
		{tell(0xff, 0xff, 0xff, 0xff)(""), api.ErrShort},
		{tell(0x80, 0x80, 0x80, 0x80, 0x80, 0)(far), api.ErrForm},
		{tell(0x80, 0x80, 0x80, 0x80, 0x80)(""), api.ErrForm},
		{tell(0x81, 0x80, 0x80, 0x80, 0x10)(far), api.ErrForm},
		{tell(0xff, 0xff, 0xff, 0xff, 0x1f)(""), api.ErrForm},
		{tell(0xff, 0xff, 0xff, 0xff, 0x7f)(""), api.ErrForm},
		{tell(0xff, 0xff, 0xff, 0xff, 0x0f)(far), api.ErrShort},
		{tell(0x80, 0x80, 0x80, 0x80, 0x08)(far), api.ErrShort},
		{tell(1)(""), api.ErrShort},
		{tell(2)("a"), api.ErrShort},
		{tell(2)("\xff"), api.ErrShort},
		{tell(65)(long[:64]), api.ErrShort},
		{tell(65)("\xff" + long[:63]), api.ErrShort},
		{tell(0x81, 0)(""), api.ErrShort},
		{tell(1)("\xff"), api.ErrForm},
		{tell(1)("\xc3"), api.ErrForm},
		{tell(1)("\xc3\xa9"), api.ErrForm},
		{tell(2)("\xc0\x80"), api.ErrForm},
		{tell(3)("\xed\xa0\x80"), api.ErrForm},
		{tell(4)("\xf4\x90\x80\x80"), api.ErrForm},
		{tell(65)(long[:64] + "\xff"), api.ErrForm},
		{tell(65)("\xff" + long[:64]), api.ErrForm},
		{tell(65)(long[:64] + "\xc3\xa9"), api.ErrForm},
		{tell(0xac, 2)(far[:299] + "\x80"), api.ErrForm},
		{tell(65)(long), api.ErrLong},
		{tell(65)(long[:63] + "\xc3\xa9"), api.ErrLong},
		{tell(0xc1, 0x80, 0)(long), api.ErrLong},
		{tell(0xac, 2)(far), api.ErrLong},
	} {
		sameName(t, c.b, named{e: c.e})
	}
}

// P2.2: every length up to 300, with a byte too few, just enough and too many.
func TestNameLengths(t *testing.T) {
	for n := range 300 {
		text := strings.Repeat("b", n)
		head := []byte{byte(n)}
		if n > 127 {
			head = []byte{byte(n%128 + 128), byte(n / 128)}
		}
		want := named{text, len(head) + n, api.OK}
		if n > 64 {
			want = named{e: api.ErrLong}
		}
		sameName(t, tell(head...)(text), want)
		sameName(t, tell(head...)(text+"\xff"), want)
		if n > 0 {
			sameName(t, tell(head...)(text[1:]), named{e: api.ErrShort})
		}
	}
}

// P2.2: the bytes of a name that is put, and why one isn't.
func TestPutName(t *testing.T) {
	full := strings.Repeat("a", 64)
	for _, c := range []struct {
		s string
		b []byte
	}{
		{"", []byte{0}},
		{"a", []byte{1, 'a'}},
		{"\x00", []byte{1, 0}},
		{"\xc3\xa9", []byte{2, 0xc3, 0xa9}},
		{"\xf4\x8f\xbf\xbf", []byte{4, 0xf4, 0x8f, 0xbf, 0xbf}},
		{full[:63], tell(63)(full[:63])},
		{full, tell(64)(full)},
		{full[:62] + "\xc3\xa9", tell(64)(full[:62] + "\xc3\xa9")},
	} {
		if b, e := PutName(nil, c.s); !bytes.Equal(b, c.b) || e != api.OK {
			t.Errorf("PutName(nil, %q) = % x, %d; want % x", c.s, b, e, c.b)
		}
	}
	for _, c := range []struct {
		s string
		e api.Errno
	}{
		{"\xff", api.ErrForm},
		{"\x80", api.ErrForm},
		{"\xc3", api.ErrForm},
		{"\xc0\x80", api.ErrForm},
		{"\xed\xa0\x80", api.ErrForm},
		{"\xf4\x90\x80\x80", api.ErrForm},
		{full[:63] + "\xff", api.ErrForm},
		{full + "\xff", api.ErrForm},
		{"\xff" + full, api.ErrForm},
		{full + "a", api.ErrLong},
		{full[:63] + "\xc3\xa9", api.ErrLong},
		{strings.Repeat(full, 40), api.ErrLong},
	} {
		for _, b := range [][]byte{nil, {}, {1, 2, 3}} {
			if got, e := PutName(b, c.s); len(got) != 0 || e != c.e {
				t.Errorf("PutName(% x, %q) = % x, %d; want %d", b, c.s, got, e, c.e)
			}
		}
	}
}

// P2.2: what stands ahead stays, and neither it nor its spare room is written or kept.
func TestPutNameBehind(t *testing.T) {
	before := bytes.Repeat([]byte{0x11}, 128)
	for _, s := range []string{"", "a", "\xc3\xa9", strings.Repeat("a", 64), strings.Repeat("a", 65), "\xff"} {
		for _, size := range []int{0, 1, 63, 64, 127, 128} {
			room := slices.Clone(before)
			got, e := PutName(room[:size], s)
			if want := append(bytes.Clone(before[:size]), tell(byte(len(s)))(s)...); e == api.OK && !bytes.Equal(got, want) {
				t.Errorf("%q behind %d bytes: % x", s, size, got)
			}
			got = got[:cap(got)]
			for i := range got {
				got[i] = 0xee
			}
			if !bytes.Equal(room, before) {
				t.Fatalf("%q behind %d bytes shares memory: % x", s, size, room)
			}
		}
	}
}

// P2.2: what is read is not changed, and the name stays when the bytes change behind it.
func TestNameKeepsNothing(t *testing.T) {
	b := []byte{3, 'a', 'b', 'c', 'd'}
	s, _, _ := Name(b)
	if !bytes.Equal(b, []byte{3, 'a', 'b', 'c', 'd'}) {
		t.Errorf("% x", b)
	}
	clear(b)
	if s != "abc" {
		t.Errorf("%q", s)
	}
}

// P2.3: every character, alone and as often as a name has room for it, is read as it was put,
// behind other bytes and ahead of them.
func TestPutIsRead(t *testing.T) {
	for c := range 0x110000 {
		if isCharacter(c) {
			putIsRead(t, bits(c, need(c)))
		}
	}
	for _, c := range []int{0, 0x7f, 0x80, 0x7ff, 0x800, 0xd7ff, 0xe000, 0xffff, 0x10000, 0x10ffff} {
		for n := range 64/need(c) + 1 {
			putIsRead(t, strings.Repeat(bits(c, need(c)), n))
		}
	}
}

func putIsRead(t *testing.T, s string) {
	t.Helper()
	ahead := []byte{0x80, 0xff}
	b, e := PutName(ahead, s)
	if e != api.OK || !bytes.HasPrefix(b, ahead) {
		t.Fatalf("PutName(% x, %q) = % x, %d", ahead, s, b, e)
	}
	b = b[len(ahead):]
	sameName(t, b, named{s, len(b), api.OK})
	sameName(t, append(b, 0xff, 'a'), named{s, len(b), api.OK})
	for cut := range b {
		sameName(t, b[:cut], named{e: api.ErrShort})
	}
}

func FuzzName(f *testing.F) {
	all := forms()
	f.Add([]byte{1, 'a', 'b'})
	f.Add([]byte{2, 0xc3, 0xa9})
	f.Add([]byte{0x83, 0, 0xed, 0xa0, 0x80})
	f.Fuzz(func(t *testing.T, b []byte) {
		if s := string(b); Valid(s) != model(all, s) {
			t.Errorf("Valid(% x): %t", b, Valid(s))
		}
		if s := string(b); len(s) <= 64 && model(all, s) {
			putIsRead(t, s)
		}
		s, size, e := Name(b)
		if e != api.OK {
			if s != "" || size != 0 {
				t.Errorf("Name(% x) = %q, %d beside %d", b, s, size, e)
			}
			return
		}
		if len(s) > 64 || !model(all, s) || size > len(b) || !bytes.HasSuffix(b[:size], []byte(s)) {
			t.Errorf("Name(% x) = %q, %d", b, s, size)
		}
	})
}

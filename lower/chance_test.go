package lower_test

import (
	"slices"
	"strings"
	"testing"

	"trammel/api"
)

// chance is numbers that follow one another by a rule, so that each run has the same.
type chance struct{ state uint64 }

func (c *chance) below(n int) int {
	c.state = c.state*6364136223846793005 + 1442695040888963407
	return int(c.state >> 33 % uint64(n))
}

func (c *chance) word(l ...string) string { return l[c.below(len(l))] }

// maker makes right bodies by chance: it keeps what lies on the innermost block's stack, and lays
// what an instruction takes ahead of it.
type maker struct {
	rnd    *chance
	gives  string
	labels []string // of each open block, the innermost first
	stack  string
	dead   bool
	body   []api.Instr
}

func (m *maker) say(x ...api.Instr) { m.body = append(m.body, x...) }

// lay constants.
func (m *maker) lay(letters string) {
	for _, x := range letters {
		op := api.Const32
		if x == 'I' {
			op = api.Const64
		}
		m.say(api.Instr{Op: op, K: int64(m.rnd.below(1000) - 500)})
	}
	m.stack += letters
}

// need lays what isn't there yet of what an instruction takes. Where it is dead some of it may be
// left out.
func (m *maker) need(letters string) {
	have := len(letters)
	for !strings.HasSuffix(m.stack, letters[:have]) {
		have--
	}
	if m.dead && m.stack == "" {
		have = m.rnd.below(len(letters) + 1)
		m.stack = letters[:have]
	}
	m.lay(letters[have:])
}

func (m *maker) does(x api.Instr, sig string) {
	in, out, _ := strings.Cut(sig, ":")
	m.need(in)
	m.say(x)
	m.stack = m.stack[:len(m.stack)-len(in)] + out
}

// texts of instructions that take and give by what they are in the world, in a function whose
// locals are i, I, i, I.
const texts = "28 2 7=i:i; 29 3 0=i:I; 2c 0 9=i:i; 31 0 1=i:I; 35 2 0=i:I; 36 1 4=ii:; 37 0 4294967295=iI:; 3b 1 0=ii:; 3e 2 5=iI:; " +
	"3f=:i; 40=i:i; 45=i:i; 46=ii:i; 50=I:i; 5a=II:i; 67=i:i; 6d=ii:i; 79=I:I; 8a=II:I; a7=I:i; ac=i:I; c0=i:i; c4=I:I; " +
	"nop=:; local.get 0=:i; local.get 3=:I; local.set 2=i:; local.tee 1=I:I; global.get 3=:I; global.set 1=I:; global.set 2=i:; " +
	"call 0=i:i; call 1=iI:Ii; call 2=:; call 3=:I; call 4=iii:; call_indirect ii:ii 0=iii:ii; call_indirect : 0=i:; call_indirect iiI:Iii 0=iiIi:Iii; " +
	"memory.init 2=iii:; data.drop 1=:; memory.copy=iii:; memory.fill=iii:; table.init 1 0=iii:; elem.drop 0=:; table.copy=iii:"

func (m *maker) step(deep int) {
	switch m.rnd.below(12) {
	case 0, 1, 2:
		m.block(deep, m.rnd.word("block", "loop", "if"), m.rnd.word(":", ":i", ":I", "i:i", "iI:Ii", "I:", "ii:i", ":iI", "iiI:Iii"))
	case 3:
		m.leap()
	case 4:
		n := m.rnd.below(len(m.labels))
		m.does(api.Instr{Op: api.BrIf, A: n}, m.labels[n]+"i:"+m.labels[n])
	case 5:
		v := m.rnd.word("i", "I")
		m.does(api.Instr{Op: api.Select}, v+v+"i:"+v)
	case 6:
		m.lay(m.rnd.word("i", "I", "Ii"))
	default:
		text, sig, _ := strings.Cut(m.rnd.word(strings.Split(texts, "; ")...), "=")
		m.does(instrOf(strings.Fields(text)), sig)
	}
}

// leap: a branch that is always taken.
func (m *maker) leap() {
	n := m.rnd.below(len(m.labels))
	switch m.rnd.below(8) {
	case 0, 1:
		m.does(api.Instr{Op: api.Br, A: n}, m.labels[n]+":")
	case 2:
		m.does(api.Instr{Op: api.BrTable, L: m.likeLabel(n), A: n}, m.labels[n]+"i:")
	case 3:
		m.does(api.Instr{Op: api.Return}, m.gives+":")
	case 4:
		m.say(api.Instr{Op: api.Unreachable})
	default:
		return
	}
	m.stack, m.dead = "", true
}

// likeLabel is labels that take what one of them does.
func (m *maker) likeLabel(n int) []int {
	var l []int
	for range m.rnd.below(5) {
		if a := m.rnd.below(len(m.labels)); m.labels[a] == m.labels[n] {
			l = append(l, a)
		}
	}
	return l
}

func (m *maker) block(deep int, kind, sig string) {
	in, out, _ := strings.Cut(sig, ":")
	x := instrOf([]string{kind, sig})
	label := out
	if kind == "loop" {
		label = in
	}
	if kind == "if" {
		m.need(in + "i")
		m.stack = m.stack[:len(m.stack)-1]
	}
	m.does(x, in+":")
	below, dead := m.stack, m.dead
	m.labels = slices.Insert(m.labels, 0, label)
	m.part(deep+1, in, out)
	if kind == "if" && (in != out || m.rnd.below(2) == 0) {
		m.say(api.Instr{Op: api.Else})
		m.part(deep+1, in, out)
	}
	m.say(api.Instr{Op: api.End})
	m.labels = m.labels[1:]
	m.stack, m.dead = below+out, dead
}

// part of a block: some steps, and then just what comes out.
func (m *maker) part(deep int, in, out string) {
	m.stack, m.dead = in, false
	if deep < 6 {
		for range m.rnd.below(9 - deep) {
			m.step(deep)
		}
	}
	for m.stack != "" && !strings.HasPrefix(out, m.stack) {
		m.does(api.Instr{Op: api.Drop}, m.stack[len(m.stack)-1:]+":")
	}
	m.need(out)
}

// right function of the world.
func (c *chance) right() api.Func {
	sig := c.word("iI:", "iI:i", "iI:I", "iI:iI", "iI:Ii")
	_, out, _ := strings.Cut(sig, ":")
	m := &maker{rnd: c, gives: out, labels: []string{out}}
	m.part(0, "", out)
	m.say(api.Instr{Op: api.End})
	return api.Func{Type: sigNumber(sig), Locals: typesOf("iI"), Body: m.body}
}

// spoil a function: an instruction more, less, another one or at another place.
func (c *chance) spoil(f api.Func) api.Func {
	words := bodyOf("drop; i32; i64; select; unreachable; br 0; br 1; br_if 0; br_table 0 1; return; local.get 0; local.get 9; add; wrap; end; else; block :i; if; loop i:i; call 3; call 8; global.set 0; 28 2 0; 28 3 0; memory.copy; nop; call_indirect 99 0")
	w := words[c.below(len(words))]
	f.Body = slices.Clone(f.Body)
	at := c.below(len(f.Body))
	switch c.below(4) {
	case 0:
		f.Body = slices.Insert(f.Body, at, w)
	case 1:
		f.Body = slices.Delete(f.Body, at, at+1)
	case 2:
		f.Body[at] = w
	default:
		to := c.below(len(f.Body))
		f.Body[at], f.Body[to] = f.Body[to], f.Body[at]
	}
	return f
}

// P12.1, P12.3: right bodies by chance, and these spoilt once or more, against the model, and
// block in block.
func TestChance(t *testing.T) {
	c, rnd := world(), &chance{12}
	met, sites, loops := map[api.Errno]int{}, 0, 0
	for range 5000 {
		f := rnd.right()
		if e := alike(t, c, f); e != api.OK {
			t.Fatalf("%+v: %d", f, e)
		}
		x := modelLower(c, f)
		sites, loops = max(sites, x.Sites), max(loops, len(x.Loops))
		for len(f.Body) > 0 && rnd.below(4) > 0 {
			f = rnd.spoil(f)
			met[alike(t, c, f)]++
		}
	}
	if sites < 10 || loops < 5 {
		t.Errorf("%d sites and %d loops at most", sites, loops)
	}
	for _, e := range []api.Errno{api.OK, api.ErrForm, api.ErrArg, api.ErrType, api.ErrIndex} {
		if met[e] < 200 {
			t.Errorf("%d was met %d times", e, met[e])
		}
	}
}

// P12.1, P12.3: all bodies of so many of these instructions, and an end, against the model, and
// block in block.
func TestAllShort(t *testing.T) {
	c := world()
	for _, x := range []struct {
		words string
		most  int
		own   []string
	}{
		{"unreachable; nop; block; block :i; block i:I; loop i:i; loop :I; if; if :i; if i:i; else; end; br 0; br 1; br_if 0; br_table 0 1; return; drop; select; i32 1; i64 2; local.tee 0; eqz; call 0; global.set 2; 28 2 0", 3, []string{":", ":i", "i:I"}},
		{"unreachable; block :i; loop i:i; if; if :i; else; end; br 0; br_if 0; br_table 1 0; drop; 28 0 0; i32 1", 4, []string{":", ":i"}},
		{"unreachable; if :i; if i:i; else; end; br 1; drop; i32 1", 6, []string{":i"}},
		{"loop; loop i:; if; else; end; br 0; i32 1; memory.copy", 6, []string{":"}},
	} {
		for _, own := range x.own {
			met := map[api.Errno]int{}
			for n := range x.most + 1 {
				each(n, bodyOf(x.words), nil, func(l []api.Instr) {
					f := api.Func{Type: sigNumber(own), Locals: typesOf("i"), Body: append(l, api.Instr{Op: api.End})}
					met[alike(t, c, f)]++
				})
			}
			if met[api.OK] < 50 || met[api.ErrType] < 500 || met[api.ErrForm] < 1000 {
				t.Errorf("%s, %s: %v", own, x.words, met)
			}
		}
	}
}

// each list of so many words.
func each(n int, words, ahead []api.Instr, do func([]api.Instr)) {
	if n == 0 {
		do(slices.Clone(ahead))
		return
	}
	for _, w := range words {
		each(n-1, words, append(ahead, w), do)
	}
}

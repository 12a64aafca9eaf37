package valid

import (
	"slices"
	"strings"
	"testing"

	"trammel/api"
)

// against holds Body against the model.
func against(t *testing.T, c api.Ctx, f api.Func) api.Errno {
	t.Helper()
	got, want := Body(c, f), modelBody(c, f)
	if got != want {
		t.Fatalf("Body(%+v, %+v) = %d, want %d", c, f, got, want)
	}
	return got
}

// P10.1: all bodies of so many of these instructions, and an end, against the model.
func TestAllShort(t *testing.T) {
	for _, x := range []struct {
		words string
		most  int
		own   []string
	}{
		{"unreachable; nop; block; block :i; block i:I; loop i:i; loop :I; if; if :i; if i:i; else; end; br 0; br 1; br_if 0; br_table 0 1; return; drop; select; i32; i64; local.tee 0; eqz; call 0; global.set 0; 28 2 0", 3, []string{":", ":i", "i:I"}},
		{"unreachable; block :i; block i:i; if; if :i; else; end; br 0; br_if 0; br_table 0 1; drop; select; i32; i64", 4, []string{":", ":i"}},
		{"unreachable; if :i; if i:i; else; end; br 1; drop; i32", 6, []string{":i"}},
		{"block :I; unreachable; br_table 0 1; end; select; i64; i32", 6, []string{":i", ":I"}},
	} {
		for _, own := range x.own {
			c := world()
			f := api.Func{Type: typed(&c, own), Locals: values("i")}
			words := body(&c, x.words)
			met := map[api.Errno]int{}
			for n := range x.most + 1 {
				short(n, words, nil, func(l []api.Instr) {
					f.Body = append(l, api.Instr{Op: api.End})
					met[against(t, c, f)]++
				})
			}
			if met[fine] < 20 || met[misfits] < 1000 || met[api.ErrForm] < 1000 {
				t.Errorf("%s, %s: %v", own, x.words, met)
			}
		}
	}
}

// short lists of so many words, all of them.
func short(n int, words, ahead []api.Instr, do func([]api.Instr)) {
	if n == 0 {
		do(slices.Clone(ahead))
		return
	}
	for _, w := range words {
		short(n-1, words, append(ahead, w), do)
	}
}

// chance is numbers that follow one another by a rule, so that each run has the same.
type chance struct{ state uint64 }

func (c *chance) below(n int) int {
	c.state = c.state*6364136223846793005 + 1442695040888963407
	return int(c.state >> 33 % uint64(n))
}

func (c *chance) word(l ...string) string { return l[c.below(len(l))] }

// maker makes right bodies: it keeps what lies on the innermost block's stack, and lays what an
// instruction takes ahead of it.
type maker struct {
	c      *chance
	rows   []row
	labels []string // of each open block, the innermost first
	gives  string
	stack  string
	dead   bool
	text   []string
}

func (m *maker) say(words ...string) { m.text = append(m.text, words...) }

// need lays values on the stack till those that are needed are there.
func (m *maker) need(letters string) {
	have := 0
	for n := range len(letters) + 1 {
		if strings.HasSuffix(m.stack, letters[:n]) {
			have = n
		}
	}
	if m.dead && m.stack == "" && m.c.below(2) == 0 { // of any type, as many as may lie below
		have = m.c.below(len(letters) + 1)
		m.stack = letters[:have]
	}
	m.say(consts(letters[have:]))
	m.stack += letters[have:]
}

func (m *maker) row(text, takes, gives string) {
	m.need(takes)
	m.say(text + "; ")
	m.stack = m.stack[:len(m.stack)-len(takes)] + gives
}

func (m *maker) die() { m.stack, m.dead = "", true }

func (m *maker) step(deep int) {
	switch m.c.below(12) {
	case 0, 1:
		m.block(deep, m.c.word("block", "loop", "if"), m.c.word(":", ":i", ":I", "i:i", "iI:Ii", "I:", "ii:i", ":iI"))
	case 2:
		if m.c.below(3) == 0 {
			m.jump()
		}
	case 3:
		n := m.c.below(len(m.labels))
		m.row("br_if "+string(rune('0'+n)), m.labels[n]+"i", m.labels[n])
	case 4:
		v := m.c.word("i", "I")
		m.row("select", v+v+"i", v)
	case 5:
		if m.stack != "" {
			m.row("drop", m.stack[len(m.stack)-1:], "")
		}
	case 6:
		m.stack += m.c.word("i", "I")
		m.say(consts(m.stack[len(m.stack)-1:]))
	default:
		r := m.rows[m.c.below(len(m.rows))]
		m.row(r.text, r.takes, r.gives)
	}
}

func (m *maker) jump() {
	n := m.c.below(len(m.labels))
	digit := string(rune('0' + n))
	switch m.c.below(4) {
	case 0:
		m.need(m.labels[n])
		m.say("br " + digit + "; ")
	case 1:
		m.need(m.labels[n] + "i")
		m.say("br_table " + strings.Repeat(digit+" ", m.c.below(3)) + digit + "; ")
	case 2:
		m.need(m.gives)
		m.say("return; ")
	default:
		m.say("unreachable; ")
	}
	m.die()
}

func (m *maker) block(deep int, kind, own string) {
	into, out, _ := strings.Cut(own, ":")
	takes, label := into, out
	if kind == "if" {
		takes += "i"
	}
	if kind == "loop" {
		label = into
	}
	m.need(takes)
	m.say(kind + " " + own + "; ")
	below, dead := m.stack[:len(m.stack)-len(takes)], m.dead
	m.labels = slices.Insert(m.labels, 0, label)
	m.part(deep+1, into, out)
	if kind == "if" && (into != out || m.c.below(2) == 0) {
		m.say("else; ")
		m.part(deep+1, into, out)
	}
	m.say("end; ")
	m.labels = m.labels[1:]
	m.stack, m.dead = below+out, dead
}

// part of a block: some steps, and then just what comes out.
func (m *maker) part(deep int, into, out string) {
	m.stack, m.dead = into, false
	for range m.c.below(8 - deep) {
		if deep < 6 {
			m.step(deep)
		}
	}
	for m.stack != "" && !strings.HasPrefix(out, m.stack) {
		m.row("drop", m.stack[len(m.stack)-1:], "")
	}
	m.need(out)
}

// right function by chance.
func (c *chance) right(x *api.Ctx) api.Func {
	out := c.word("", "i", "I", "iI", "Iii")
	m := &maker{c: c, rows: plainRows(), gives: out, labels: []string{out}}
	m.part(0, "", out)
	return api.Func{Type: typed(x, "iI:"+out), Body: body(x, strings.Join(m.text, "")+"end")}
}

// spoilt is a function with an instruction more, less, another one or at another place.
func (c *chance) spoilt(x *api.Ctx, f api.Func) api.Func {
	words := body(x, "drop; i32; i64; select; unreachable; br 0; br 1; br_if 0; br_table 0 1; return; local.get 0; local.get 9; local.tee 1; add; wrap; ac; end; else; block :i; if; loop i:i; call 3; call 8; global.set 0; global.set 1; 28 2 0; 28 3 0; memory.copy; nop; call_indirect 99 0; memory.init 3")
	w := words[c.below(len(words))]
	f.Body = slices.Clone(f.Body)
	at := c.below(len(f.Body))
	switch c.below(4) {
	case 0:
		f.Body = slices.Insert(f.Body, at, w)
	case 1:
		f.Body = slices.Delete(f.Body, at, at+1)
	case 2:
		f.Body[at] = w
	default:
		to := c.below(len(f.Body))
		f.Body[at], f.Body[to] = f.Body[to], f.Body[at]
	}
	return f
}

// P10.1, P10.3: right bodies by chance, and these spoilt once or more, against the model; with nops
// anywhere they stay what they are.
func TestChance(t *testing.T) {
	c := &chance{state: 10}
	met := map[api.Errno]int{}
	for range 20000 {
		x := world()
		f := c.right(&x)
		if e := against(t, x, f); e != fine {
			t.Fatalf("%+v: %d", f, e)
		}
		if c.below(10) == 0 {
			nops(t, x, f, fine)
		}
		for range 5 {
			if len(f.Body) == 0 {
				break
			}
			f = c.spoilt(&x, f)
			e := against(t, x, f)
			met[e]++
			if c.below(100) == 0 {
				nops(t, x, f, e)
			}
		}
	}
	for _, e := range []api.Errno{fine, api.ErrForm, api.ErrArg, misfits, absent} {
		if met[e] < 1000 {
			t.Errorf("%d was met %d times", e, met[e])
		}
	}
}

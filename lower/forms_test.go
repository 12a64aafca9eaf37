package lower_test

import (
	"strings"
	"testing"

	"trammel/api"
)

// lowered is a body of the world by its function's type, and what becomes of it.
type lowered struct{ own, text, flat, loops string }

func lowersAll(t *testing.T, l []lowered) {
	t.Helper()
	for _, x := range l {
		lowers(t, x.own, "", x.text, x.flat, x.loops)
	}
}

// P12.1: nop, block, loop and the end of a block become nothing, the last end an End.
func TestNothing(t *testing.T) {
	lowersAll(t, []lowered{
		{":", "", "end", ""},
		{":", "nop", "end", ""},
		{":", "nop; nop; nop", "end", ""},
		{":", "block; end", "end", ""},
		{":", "block; nop; block; end; nop; end; block; end", "end", ""},
		{":", "loop; end", "end", "0,0,0"},
		{":", "block; loop; nop; block; end; end; end", "end", "0,0,0"},
		{":i", "block :i; i32 7; end", "i32 k7; end", ""},
		{":I", "i64 1; block I:I; end; loop I:I; end", "i64 k1; end", "1,0,1"},
		{"i:i", "nop; local.get 0; nop", "local.get; end", ""},
		{"iI:iI", "local.get 0; block; nop; end; local.get 1", "local.get; local.get a1; end", ""},
		{":", "block; i32 1; br_if 0; nop; end", "i32 k1; br_if >2,0,0; end", ""},
	})
}

// P12.1: if becomes a JumpNot, else a Jump, of which both A and what goes along are 0.
func TestIfs(t *testing.T) {
	lowersAll(t, []lowered{
		{":", "i32 1; if; end", "i32 k1; jumpnot >2,0,0; end", ""},
		{":", "i32 1; if; nop; block; end; end", "i32 k1; jumpnot >2,0,0; end", ""},
		{":", "i32 1; if; i32 2; drop; end", "i32 k1; jumpnot >4,0,0; i32 k2; drop; end", ""},
		{":", "i32 1; if; i32 2; drop; end; i32 3; drop", "i32 k1; jumpnot >4,0,0; i32 k2; drop; i32 k3; drop; end", ""},
		{":i", "i32 1; if :i; i32 2; else; i32 3; end", "i32 k1; jumpnot >4,0,0; i32 k2; jump >5,0,0; i32 k3; end", ""},
		{":i", "i32 1; if :i; i32 2; else; i32 3; end; nop; i32 4; add", "i32 k1; jumpnot >4,0,0; i32 k2; jump >5,0,0; i32 k3; i32 k4; add; end", ""},
		{":", "i32 1; if; else; end", "i32 k1; jumpnot >3,0,0; jump >3,0,0; end", ""},
		{":", "i32 1; if; nop; else; nop; end; nop", "i32 k1; jumpnot >3,0,0; jump >3,0,0; end", ""},
		{":", "i32 1; if; else; i32 2; drop; end", "i32 k1; jumpnot >3,0,0; jump >5,0,0; i32 k2; drop; end", ""},
		{":", "i32 1; if; i32 2; drop; else; end", "i32 k1; jumpnot >5,0,0; i32 k2; drop; jump >5,0,0; end", ""},
		{":i", "i64 9; i32 5; i32 1; if i:i; i32 2; add; else; eqz; end; drop; wrap", "i64 k9; i32 k5; i32 k1; jumpnot >7,0,0; i32 k2; add; jump >8,0,0; eqz; drop; wrap; end", ""},
		{":i", "i64 9; i32 5; i32 1; if i:i; i32 2; add; end; drop; wrap", "i64 k9; i32 k5; i32 k1; jumpnot >6,0,0; i32 k2; add; drop; wrap; end", ""},
		{":", "i32 1; if; i32 2; if; end; end", "i32 k1; jumpnot >4,0,0; i32 k2; jumpnot >4,0,0; end", ""},
		{":", "i32 1; if; i32 2; if; else; end; else; end", "i32 k1; jumpnot >6,0,0; i32 k2; jumpnot >5,0,0; jump >5,0,0; jump >6,0,0; end", ""},
		{":", "i32 1; if; else; i32 2; if; i32 3; drop; end; end", "i32 k1; jumpnot >3,0,0; jump >7,0,0; i32 k2; jumpnot >7,0,0; i32 k3; drop; end", ""},
		{":i", "i32 1; if :i; i32 2; if :i; i32 3; else; i32 4; end; else; i32 5; if :i; i32 6; else; i32 7; end; end", "i32 k1; jumpnot >8,0,0; i32 k2; jumpnot >6,0,0; i32 k3; jump >7,0,0; i32 k4; jump >13,0,0; i32 k5; jumpnot >12,0,0; i32 k6; jump >13,0,0; i32 k7; end", ""},
	})
}

// P12.1: an else behind code whose end is dead becomes nothing; one behind a block that has ended
// is alive.
func TestDeadElse(t *testing.T) {
	lowersAll(t, []lowered{
		{":i", "i32 1; if :i; unreachable; else; i32 3; end", "i32 k1; jumpnot >3,0,0; unreachable; i32 k3; end", ""},
		{":i", "i32 1; if :i; i32 2; return; else; i32 3; end", "i32 k1; jumpnot >4,0,0; i32 k2; return; i32 k3; end", ""},
		{":i", "i32 1; if :i; i32 2; br 0; else; i32 3; end", "i32 k1; jumpnot >4,0,0; i32 k2; br >5,1,0; i32 k3; end", ""},
		{":i", "i32 1; if :i; i32 2; i32 0; br_table 0 1; else; i32 3; end", "i32 k1; jumpnot >5,0,0; i32 k2; i32; br_table a1 >6,1,0 >6,1,0; i32 k3; end", ""},
		{":i", "i32 1; if :i; i32 2; i32 0; br_if 0; else; i32 3; end", "i32 k1; jumpnot >6,0,0; i32 k2; i32; br_if >7,1,0; jump >7,0,0; i32 k3; end", ""},
		{":i", "i32 1; if :i; unreachable; nop; i32 4; else; i32 3; end", "i32 k1; jumpnot >3,0,0; unreachable; i32 k3; end", ""},
		{":i", "i32 1; if :i; i32 2; else; unreachable; end", "i32 k1; jumpnot >4,0,0; i32 k2; jump >5,0,0; unreachable; end", ""},
		{":i", "i32 1; if :i; unreachable; else; unreachable; end", "i32 k1; jumpnot >3,0,0; unreachable; unreachable; end", ""},
		{":", "i32 1; if; unreachable; else; end", "i32 k1; jumpnot >3,0,0; unreachable; end", ""},
		{":", "i32 1; if; unreachable; end", "i32 k1; jumpnot >3,0,0; unreachable; end", ""},
		{":", "i32 1; if; unreachable; else; end; i32 2; drop", "i32 k1; jumpnot >3,0,0; unreachable; i32 k2; drop; end", ""},
		{":", "i32 1; if; block; unreachable; end; else; nop; end", "i32 k1; jumpnot >4,0,0; unreachable; jump >4,0,0; end", ""},
		{":", "i32 1; if; loop; br 0; end; else; i32 2; drop; end", "i32 k1; jumpnot >4,0,0; br >2,0,0; jump >6,0,0; i32 k2; drop; end", "2,0,0"},
		{":", "i32 1; if; block; br 1; end; else; i32 2; drop; end", "i32 k1; jumpnot >4,0,0; br a1 >6,0,0; jump >6,0,0; i32 k2; drop; end", ""},
		{":", "i32 1; if; unreachable; block; end; else; end", "i32 k1; jumpnot >3,0,0; unreachable; end", ""},
		{":", "i32 1; if; unreachable; i32 3; if; else; end; else; end; i32 4; drop", "i32 k1; jumpnot >3,0,0; unreachable; i32 k4; drop; end", ""},
		{":", "unreachable; i32 1; if; else; end; i32 2; drop", "unreachable; end", ""},
		{":i", "unreachable; if :i; unreachable; else; i32 3; end", "unreachable; end", ""},
	})
}

// P12.1: behind a branch that is always taken nothing is put, blocks and their ends neither, up to
// the end (or else) of a block that began alive.
func TestDeadCode(t *testing.T) {
	lowersAll(t, []lowered{
		{":", "unreachable", "unreachable; end", ""},
		{":", "unreachable; drop; i32 1; br_if 0; return; br 0; unreachable; nop; call 2", "unreachable; end", ""},
		{":i", "i32 4; return; i32 5; i32 6; add", "i32 k4; return; end", ""},
		{":i", "i32 4; br 0; drop; i32 5", "i32 k4; br >2,1,0; end", ""},
		{":i", "i32 4; i32 0; br_table 0 0; drop; i32 5", "i32 k4; i32; br_table >3,1,0 >3,1,0; end", ""},
		{":i", "i32 4; i32 0; br_if 0; drop; i32 5", "i32 k4; i32; br_if >5,1,0; drop; i32 k5; end", ""},
		{":", "unreachable; block; i32 1; drop; end; i32 2; drop", "unreachable; end", ""},
		{":", "unreachable; block; br 0; end; i32 2; drop; loop; i32 1; br_if 0; end; block; unreachable; end; nop", "unreachable; end", ""},
		{":", "unreachable; loop; br 0; end; i32 2; drop", "unreachable; end", ""},
		{":", "unreachable; i32 1; if; br 1; else; br 0; end; i32 2; drop", "unreachable; end", ""},
		{":", "unreachable; block; block; end; end; block; loop; block; br 2; end; br 0; end; end; return", "unreachable; end", ""},
		{":", "block; unreachable; end; i32 2; drop", "unreachable; i32 k2; drop; end", ""},
		{":", "block; br 0; i32 1; drop; end; i32 2; drop", "br >1,0,0; i32 k2; drop; end", ""},
		{":", "block; br 1; end; i32 2; drop", "br a1 >3,0,0; i32 k2; drop; end", ""},
		{":", "block; return; end; i32 2; drop", "return; i32 k2; drop; end", ""},
		{":", "block; i32 0; br_table 0 1; end; i32 2; drop", "i32; br_table a1 >2,0,0 >4,0,0; i32 k2; drop; end", ""},
		{":", "loop; unreachable; end; i32 2; drop", "unreachable; i32 k2; drop; end", "0,0,0"},
		{":", "block; block; unreachable; end; end; i32 2; drop", "unreachable; i32 k2; drop; end", ""},
		{":", "block; block; br 1; end; i32 2; drop; end; i32 3; drop", "br a1 >3,0,0; i32 k2; drop; i32 k3; drop; end", ""},
		{":", "block; unreachable; block; end; i32 1; drop; end; i32 2; drop", "unreachable; i32 k2; drop; end", ""},
		{":", "block; unreachable; block; br 1; end; br 1; end; i32 2; drop; return; i32 3; drop", "unreachable; i32 k2; drop; return; end", ""},
		{":i", "block :i; unreachable; end", "unreachable; end", ""},
		{":i", "block :i; unreachable; end; eqz", "unreachable; eqz; end", ""},
		{":", "i32 1; if; unreachable; end; i32 2; drop", "i32 k1; jumpnot >3,0,0; unreachable; i32 k2; drop; end", ""},
		{":", "i32 1; if; unreachable; else; return; end; i32 2; drop", "i32 k1; jumpnot >3,0,0; unreachable; return; i32 k2; drop; end", ""},
		{":", "i32 1; if; i32 3; drop; else; br 1; i32 4; drop; end; i32 2; drop", "i32 k1; jumpnot >5,0,0; i32 k3; drop; jump >6,0,0; br a1 >8,0,0; i32 k2; drop; end", ""},
	})
}

// P12.1: what lies on the stack behind code that is dead is known again: what lies below the block
// and what comes out of it (behind an else: what goes in).
func TestHeightBehindDead(t *testing.T) {
	lowersAll(t, []lowered{
		{":I", "i64 1; block :ii; i32 2; i32 3; i32 4; unreachable; end; block; br 0; end; drop; drop", "i64 k1; i32 k2; i32 k3; i32 k4; unreachable; br >6,0,3; drop; drop; end", ""},
		{":I", "i64 1; i32 2; block i:; unreachable; i32 9; drop; end; block; br 0; end", "i64 k1; i32 k2; unreachable; br >4,0,1; end", ""},
		{":I", "i64 1; i32 2; loop i:ii; unreachable; drop; drop; i32 5; i32 6; end; loop; br 0; end; drop; drop", "i64 k1; i32 k2; unreachable; br >3,0,3; drop; drop; end", "2,1,1; 3,3,0"},
		{":I", "i64 1; i32 2; i32 3; if i:ii; unreachable; i32 4; else; block; br 0; end; i32 5; end; block; br 0; end; drop; drop", "i64 k1; i32 k2; i32 k3; jumpnot >5,0,0; unreachable; br >6,0,2; i32 k5; br >8,0,3; drop; drop; end", ""},
		{":I", "i64 1; i32 2; i32 3; if i:ii; i32 4; else; drop; unreachable; end; block; br 0; end; drop; drop", "i64 k1; i32 k2; i32 k3; jumpnot >6,0,0; i32 k4; jump >8,0,0; drop; unreachable; br >9,0,3; drop; drop; end", ""},
		{":I", "i64 1; block; block :i; i32 3; i32 4; br 0; i32 5; i32 6; unreachable; end; loop i:; drop; end; end", "i64 k1; i32 k3; i32 k4; br >4,1,1; drop; end", "4,1,1"},
	})
}

// P12.1: the label of the body itself: the place of the last End, with the results, above nothing.
func TestBodyTargets(t *testing.T) {
	lowersAll(t, []lowered{
		{":", "br 0", "br >1,0,0; end", ""},
		{":", "i64 9; br 0", "i64 k9; br >2,0,0; end", ""},
		{":iI", "i32 1; i64 2; br 0", "i32 k1; i64 k2; br >3,2,0; end", ""},
		{":iI", "i64 9; i32 1; i64 2; br 0", "i64 k9; i32 k1; i64 k2; br >4,2,0; end", ""},
		{"iI:i", "local.get 0; br 0", "local.get; br >2,1,0; end", ""},
		{":i", "i64 9; block; i64 8; i32 1; br 1; end; wrap", "i64 k9; i64 k8; i32 k1; br a1 >5,1,0; wrap; end", ""},
		{":I", "i64 9; i32 1; br_if 0", "i64 k9; i32 k1; br_if >3,1,0; end", ""},
		{":I", "i64 9; loop; i64 8; i32 1; br_if 1; drop; end", "i64 k9; i64 k8; i32 k1; br_if a1 >5,1,0; drop; end", "1,1,0"},
		{":I", "i64 9; i32 1; if; i64 8; br 1; end", "i64 k9; i32 k1; jumpnot >5,0,0; i64 k8; br a1 >5,1,0; end", ""},
		{":I", "i64 9; i64 8; return", "i64 k9; i64 k8; return; end", ""},
	})
}

// P12.1: the label of a block: the place behind its end, with what comes out, above what lies below
// what goes in.
func TestBlockTargets(t *testing.T) {
	lowersAll(t, []lowered{
		{":", "block; br 0; end; i32 2; drop", "br >1,0,0; i32 k2; drop; end", ""},
		{":", "block :i; i32 1; br 0; end; drop", "i32 k1; br >2,1,0; drop; end", ""},
		{":", "i64 9; block :i; i32 1; br 0; end; drop; drop", "i64 k9; i32 k1; br >3,1,1; drop; drop; end", ""},
		{":", "i64 9; block :i; i64 5; i32 1; br 0; end; drop; drop", "i64 k9; i64 k5; i32 k1; br >4,1,1; drop; drop; end", ""},
		{":", "i64 9; i64 8; i32 1; block i:I; drop; i64 2; br 0; end; drop; drop; drop", "i64 k9; i64 k8; i32 k1; drop; i64 k2; br >6,1,2; drop; drop; drop; end", ""},
		{":", "i64 9; i32 1; i32 2; block ii:; br 0; end; drop", "i64 k9; i32 k1; i32 k2; br >4,0,1; drop; end", ""},
		{":", "i64 9; i64 1; block I:iI; i32 1; i64 2; br 0; end; drop; drop; drop", "i64 k9; i64 k1; i32 k1; i64 k2; br >5,2,1; drop; drop; drop; end", ""},
		{":", "i64 9; i32 1; i32 2; block ii:ii; i32 3; br_if 0; end; drop; drop; drop", "i64 k9; i32 k1; i32 k2; i32 k3; br_if >5,2,1; drop; drop; drop; end", ""},
		{":", "block; block; block; br 0; end; i32 1; br_if 1; end; br 0; end", "br >1,0,0; i32 k1; br_if a1 >4,0,0; br >4,0,0; end", ""},
		{":", "block; i64 9; block; i64 8; block; br 0; end; i32 1; br_if 1; br 0; end; drop; end; i32 2; drop", "i64 k9; i64 k8; br >3,0,2; i32 k1; br_if a1 >7,0,0; br >6,0,1; drop; i32 k2; drop; end", ""},
	})
}

// P12.1: the label of a loop: the place of its first instruction, with what goes in.
func TestLoopTargets(t *testing.T) {
	lowersAll(t, []lowered{
		{":", "loop; br 0; end", "br >0,0,0; end", "0,0,0"},
		{":", "loop :i; br 0; end; drop", "br >0,0,0; drop; end", "0,0,0"},
		{":", "i64 9; loop; nop; i32 1; br_if 0; end; drop", "i64 k9; i32 k1; br_if >1,0,1; drop; end", "1,1,0"},
		{":", "i64 9; i32 1; loop i:I; drop; i32 2; i64 3; drop; br 0; end; drop; drop", "i64 k9; i32 k1; drop; i32 k2; i64 k3; drop; br >2,1,1; drop; drop; end", "2,1,1"},
		{":", "i64 9; i32 1; i64 2; loop iI:; br 0; end; drop", "i64 k9; i32 k1; i64 k2; br >3,2,1; drop; end", "3,1,2"},
		{":i", "i32 1; loop i:i; i32 0; br_if 0; end", "i32 k1; i32; br_if >1,1,0; end", "1,0,1"},
		{":", "block; loop; block; br 1; end; br 1; end; end", "br a1 >0,0,0; br a1 >2,0,0; end", "0,0,0"},
		{":i", "i32 8; block; loop; i32 1; br_if 1; i32 2; br_if 0; i32 3; i32 4; br_if 2; drop; end; end", "i32 k8; i32 k1; br_if a1 >9,0,1; i32 k2; br_if >1,0,1; i32 k3; i32 k4; br_if a2 >9,1,0; drop; end", "1,1,0"},
		{":", "loop; i32 1; br_if 0; loop; i32 2; br_if 0; i32 3; br_if 1; end; end", "i32 k1; br_if >0,0,0; i32 k2; br_if >2,0,0; i32 k3; br_if a1 >0,0,0; end", "0,0,0; 2,0,0"},
	})
}

// P12.1: the label of an if: as a block's, in both parts; the number that is tested lies not below
// it.
func TestIfTargets(t *testing.T) {
	lowersAll(t, []lowered{
		{":", "i32 1; if; br 0; end", "i32 k1; jumpnot >3,0,0; br >3,0,0; end", ""},
		{":", "i64 9; i32 1; if; br 0; end; drop", "i64 k9; i32 k1; jumpnot >4,0,0; br >4,0,1; drop; end", ""},
		{":", "i64 9; i32 1; if; i32 2; br_if 0; else; i32 3; br_if 0; end; drop", "i64 k9; i32 k1; jumpnot >6,0,0; i32 k2; br_if >8,0,1; jump >8,0,0; i32 k3; br_if >8,0,1; drop; end", ""},
		{":", "i64 9; i32 5; i32 1; if i:I; drop; i64 2; br 0; else; drop; i64 3; br 0; end; drop; drop", "i64 k9; i32 k5; i32 k1; jumpnot >7,0,0; drop; i64 k2; br >10,1,1; drop; i64 k3; br >10,1,1; drop; drop; end", ""},
		{":", "i32 5; i32 1; if i:i; i32 2; br_if 0; else; eqz; i32 3; br_if 0; end; drop", "i32 k5; i32 k1; jumpnot >6,0,0; i32 k2; br_if >9,1,0; jump >9,0,0; eqz; i32 k3; br_if >9,1,0; drop; end", ""},
		{":I", "i64 1; i32 2; i32 3; if i:ii; i32 4; else; block; br 0; end; i32 5; end; drop; drop", "i64 k1; i32 k2; i32 k3; jumpnot >6,0,0; i32 k4; jump >8,0,0; br >7,0,2; i32 k5; drop; drop; end", ""},
		{":", "i64 9; loop; i32 1; if; br 1; else; br 0; end; i32 2; drop; end; drop", "i64 k9; i32 k1; jumpnot >4,0,0; br a1 >1,0,1; br >5,0,1; i32 k2; drop; drop; end", "1,1,0"},
	})
}

// P12.1: br_table has the targets of its labels in order, and that of its own last.
func TestTableTargets(t *testing.T) {
	lowersAll(t, []lowered{
		{":", "i32 1; br_table 0", "i32 k1; br_table >2,0,0; end", ""},
		{":", "block; i32 1; br_table 0 1; end; i32 2; drop", "i32 k1; br_table a1 >2,0,0 >4,0,0; i32 k2; drop; end", ""},
		{":", "block; i32 1; br_table 1 0; end; i32 2; drop", "i32 k1; br_table >4,0,0 >2,0,0; i32 k2; drop; end", ""},
		{":", "block; loop; block; i32 1; br_table 0 1 2 3 1; end; i32 2; drop; end; i32 3; drop; end; i32 4; drop", "i32 k1; br_table a1 >2,0,0 >0,0,0 >6,0,0 >8,0,0 >0,0,0; i32 k2; drop; i32 k3; drop; i32 k4; drop; end", "0,0,0"},
		{":i", "i64 9; block :i; i64 8; loop :i; i64 7; i32 1; i32 2; br_table 1 2 1; end; drop; wrap; end; drop; wrap", "i64 k9; i64 k8; i64 k7; i32 k1; i32 k2; br_table a1 >8,1,1 >10,1,0 >8,1,1; drop; wrap; drop; wrap; end", "2,2,0"},
		{":i", "i32 5; loop i:i; i32 1; br_table 0 1 0 0 1 1 0; end", "i32 k5; i32 k1; br_table >1,1,0 >3,1,0 >1,1,0 >1,1,0 >3,1,0 >3,1,0 >1,1,0; end", "1,0,1"},
	})
	full := strings.Repeat(" 1 0", api.MaxLabels/2)
	targets := strings.Repeat(" >4,0,0 >2,0,0", api.MaxLabels/2)
	lowers(t, ":", "", "block; i32 1; br_table"+full+" 1; end; i32 2; drop", "i32 k1; br_table a1"+targets+" >4,0,0; i32 k2; drop; end", "")
}

// P12.1: loops in order, each with its place, what lies below it, and what is its own; the dead
// ones aren't told.
func TestLoops(t *testing.T) {
	lowersAll(t, []lowered{
		{":", "loop; loop; end; loop; nop; end; end", "end", "0,0,0; 0,0,0; 0,0,0"},
		{":", "i32 1; loop i:; drop; loop; i32 2; br_if 0; end; end; i32 3; i64 4; loop iI:; drop; drop; end", "i32 k1; drop; i32 k2; br_if >2,0,0; i32 k3; i64 k4; drop; drop; end", "1,0,1; 2,0,0; 6,0,2"},
		{":", "i64 9; i32 1; loop i:i; loop; end; loop i:; drop; end; i32 2; end; drop; drop", "i64 k9; i32 k1; drop; i32 k2; drop; drop; end", "2,1,1; 2,2,0; 2,1,1"},
		{":", "unreachable; loop; loop; end; end", "unreachable; end", ""},
		{":", "block; br 0; loop; end; end; loop; end", "br >1,0,0; end", "1,0,0"},
		{":", "loop; br 0; loop; end; end; loop; end", "br >0,0,0; end", "0,0,0; 1,0,0"},
		{":", "i32 1; if; loop; br 0; end; else; loop; end; end", "i32 k1; jumpnot >4,0,0; br >2,0,0; jump >4,0,0; end", "2,0,0; 4,0,0"},
		{":", "i32 1; if; unreachable; loop; end; else; loop; end; end", "i32 k1; jumpnot >3,0,0; unreachable; end", "3,0,0"},
		{":", "i64 9; i32 1; if; loop; end; end; drop", "i64 k9; i32 k1; jumpnot >3,0,0; drop; end", "3,1,0"},
		{":", "i64 9; i64 8; i32 1; if; else; loop; end; end; drop; drop", "i64 k9; i64 k8; i32 k1; jumpnot >5,0,0; jump >5,0,0; drop; drop; end", "5,2,0"},
		{":", "i64 9; i32 1; i32 2; i64 3; loop iiI:Iii; drop; drop; drop; i64 4; i32 5; i32 6; end; drop; drop; drop; drop", "i64 k9; i32 k1; i32 k2; i64 k3; drop; drop; drop; i64 k4; i32 k5; i32 k6; drop; drop; drop; drop; end", "4,1,3"},
	})
}

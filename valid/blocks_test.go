package valid

import (
	"fmt"
	"strings"
	"testing"

	"trammel/api"
)

// told is a function by its type, its body, and what is told of it.
type told struct {
	own, text string
	e         api.Errno
}

const (
	fine    = api.OK
	misfits = api.ErrType
	absent  = api.ErrIndex
)

func each(t *testing.T, l []told) {
	t.Helper()
	for _, x := range l {
		not(t, x.own, x.text, x.e)
	}
}

// P10.1: a branch to each open block, with what its label takes: of a block what comes out, of a
// loop what goes in, of the body itself the results.
func TestLabels(t *testing.T) {
	each(t, []told{
		{":i", "block :I; i64; br 0; end; wrap", fine}, {":i", "block :I; i32; br 0; end; wrap", misfits}, {":i", "block :I; i32; br 1; end; wrap", fine}, {":i", "block :I; i64; br 1; end; wrap", misfits}, {":i", "block :I; i32; br 2; end; wrap", absent},
		{":i", "loop :i; br 0; end", fine}, {":i", "loop :i; i32; br 0; end", fine}, {":i", "loop :i; i32; br 1; end", fine}, {":i", "loop :i; br 1; end", misfits}, {":i", "loop :i; i32; br 2; end", absent},
		{":I", "i32; loop i:I; br 0; end", fine}, {":I", "i32; loop i:I; drop; i64; br 0; end", misfits}, {":I", "i32; loop i:I; drop; i64; br 1; end", fine}, {":I", "i32; loop i:I; br 1; end", misfits},
		{":I", "i32; block i:I; br 0; end", misfits}, {":I", "i32; block i:I; drop; i64; br 0; end", fine}, {":I", "i32; i32; if i:I; br 0; else; drop; i64; end", misfits}, {":I", "i32; i32; if i:I; drop; i64; br 0; else; drop; i64; end", fine}, {":I", "i32; i32; if i:I; drop; i64; else; drop; i64; br 0; end", fine}, {":I", "i32; i32; if i:I; drop; i64; else; br 0; end", misfits},
		{"i:", "loop; block; br 0; br 1; br 2; end; br 0; br 1; end; br 0", fine}, {"i:", "loop; block; br 0; end; br 2; end", absent}, {"i:", "br 0; br 0", fine}, {"i:", "block; end; br 1", absent}, {"i:", "block; end; br 0", fine},
		{"i:I", "br 0", misfits}, {"i:I", "local.get 0; br 0", misfits}, {"i:I", "i64; br 0", fine}, {"Ii:", "br 0", fine},
		{":iI", "i32; i64; br 0", fine}, {":iI", "i64; i32; br 0", misfits}, {":iI", "i64; br 0", misfits}, {":iI", "i32; i32; i64; br 0", fine}, {":iI", "i64; i64; i32; i64; br 0", fine},
		{":", "br 0", fine}, {":", "i32; i64; br 0", fine},
		{":", "if; end", misfits}, {":i", "i32; if :i; i32; br 1; else; i32; end", fine}, {":i", "i32; if; i32; br 1; end; i32", fine}, {":i", "i32; if; br 1; end; i32", misfits}, {":i", "i32; if; br 0; end; i32", fine}, {":i", "i32; if; br 2; end; i32", absent},
	})
}

// P10.1: br_if leaves what its label takes; return takes the results wherever it stands.
func TestBrIfAndReturn(t *testing.T) {
	each(t, []told{
		{":i", "i32; i32; br_if 0", fine}, {":i", "i32; br_if 0", misfits}, {":i", "i64; i32; br_if 0", misfits}, {":i", "i32; i64; br_if 0", misfits}, {":i", "i32; i32; br_if 0; i32", misfits}, {":i", "i32; i32; br_if 0; drop; i32", fine}, {":i", "i32; i32; br_if 1", absent},
		{":", "i32; br_if 0", fine}, {":", "i32; i32; br_if 0", misfits}, {":", "br_if 0", misfits}, {":iI", "i32; i64; i32; br_if 0", fine}, {":iI", "i64; i32; i32; br_if 0", misfits}, {":iI", "i64; i32; br_if 0", misfits},
		{":I", "i32; loop i:I; i32; br_if 0; drop; i64; end", fine}, {":I", "i32; loop i:I; i32; br_if 1; drop; i64; end", misfits}, {":I", "i32; loop i:I; drop; i64; i32; br_if 1; end", fine}, {":I", "i32; loop i:I; drop; i64; i32; br_if 0; end", misfits},
		{":I", "block :i; unreachable; br_if 0; end; drop; i64", fine}, {":I", "block :i; unreachable; br_if 0; i64.eqz; end; drop; i64", misfits}, {":I", "block :i; unreachable; br_if 0; eqz; end; drop; i64", fine}, {":I", "block :i; unreachable; i64; i32; br_if 0; end; drop; i64", misfits}, {":I", "block :i; unreachable; i64; br_if 0; end; drop; i64", misfits}, {":I", "block :i; unreachable; br_if 0; drop; end; drop; i64", fine}, {":", "block :i; unreachable; br_if 0; br_if 1; end; drop", fine},
		{":i", "return", misfits}, {":i", "i64; return", misfits}, {":i", "i32; return", fine}, {":i", "i64; i32; return", fine}, {":i", "i32; i64; return", misfits}, {":iI", "i32; i64; return", fine}, {":iI", "i64; return", misfits}, {":", "return", fine}, {":", "i32; return", fine},
		{":i", "block :I; i32; return; end; wrap", fine}, {":i", "block :I; i64; return; end; wrap", misfits}, {":i", "i32; block; return; end", misfits}, {":i", "i32; block; i32; return; end", fine}, {":i", "loop :I; i32; return; end; wrap", fine}, {"i:i", "return", misfits},
	})
}

// P10.1: br_table, alive: each label takes the values that there are, of the same types.
func TestBrTable(t *testing.T) {
	each(t, []told{
		{":", "i32; br_table 0", fine}, {":", "br_table 0", misfits}, {":", "i64; br_table 0", misfits}, {":", "i32; br_table 1", absent},
		{":i", "i32; i32; br_table 0", fine}, {":i", "i32; br_table 0", misfits}, {":i", "i64; i32; br_table 0", misfits}, {":i", "i32; i64; br_table 0", misfits}, {":i", "i64; i32; i32; br_table 0", fine},
		{":i", "block :i; i32; i32; br_table 0 1 0 1 1; end", fine}, {":i", "block :i; i32; i32; br_table 0 1 2; end", absent}, {":i", "block :i; i32; i32; br_table 0 2 1; end", absent}, {":i", "block :i; i32; i32; br_table 2 0 1; end", absent},
		{":i", "block :I; i64; i32; br_table 0; end; wrap", fine}, {":i", "block :I; i64; i32; br_table 1 0; end; wrap", misfits}, {":i", "block :I; i32; i32; br_table 0 1; end; wrap", misfits}, {":i", "block :I; i64; i32; br_table 0 1; end; wrap", misfits}, {":i", "block :I; i32; i32; br_table 1 0; end; wrap", misfits}, {":i", "block :I; i32; i32; br_table 1 1 1; end; wrap", fine},
		{":i", "block; i32; i32; br_table 1; end; i32", fine}, {":i", "block; i32; i32; br_table 0 1; end; i32", misfits}, {":i", "block; i32; i32; br_table 1 0; end; i32", misfits}, {":i", "block; i32; br_table 1 0; end; i32", misfits}, {":i", "block; i32; br_table 0 0 0; end; i32", fine},
		{":iI", "block :iI; block :Ii; i64; i32; i32; br_table 0; end; drop; drop; i32; i64; end", fine}, {":iI", "block :iI; block :Ii; i64; i32; i32; br_table 1 0; end; drop; drop; i32; i64; end", misfits}, {":iI", "block :iI; block :Ii; i32; i64; i32; br_table 2 1 1 2; end; drop; drop; i32; i64; end", fine}, {":iI", "block :iI; block :Ii; i32; i64; i32; br_table 2 1 0 2; end; drop; drop; i32; i64; end", misfits},
		{":i", "block :I; block :i; i32; i32; br_table 2 0; end; br 1; end; wrap", fine}, {":i", "block :I; block :i; i32; i32; br_table 2 1 0; end; br 1; end; wrap", misfits},
		{":I", "i32; loop i:I; i32; br_table 0 0; end", fine}, {":I", "i32; loop i:I; i32; br_table 1 0; end", misfits}, {":I", "i32; loop i:I; i32; br_table 0 1; end", misfits}, {":i", "i32; loop i:i; i32; br_table 0 1; end", fine}, {":i", "loop :i; i32; br_table 0; end", fine}, {":i", "loop :i; i32; i32; br_table 1 0; end", misfits},
		{":", "i32; br_table 0" + strings.Repeat(" 0", api.MaxLabels), fine}, {":", "i32; br_table 1" + strings.Repeat(" 0", api.MaxLabels), absent}, {":", "i32; br_table 0" + strings.Repeat(" 0", api.MaxLabels-2) + " 1 0", absent}, {":", "i32; br_table 0" + strings.Repeat(" 0", api.MaxLabels+1), api.ErrForm},
	})
}

// P10.1: br_table, dead: labels of different types, but not of different lengths, fit values of any
// type; where some are of a type, each label has to take these.
func TestBrTableDead(t *testing.T) {
	two := "block :i; block :I; unreachable; "
	rest := "; end; wrap; end"
	each(t, []told{
		{":i", two + "br_table 0" + rest, fine}, {":i", two + "br_table 0 1" + rest, fine}, {":i", two + "br_table 1 0" + rest, fine}, {":i", two + "br_table 1 0 2 0" + rest, fine}, {":i", two + "br_table 0 3" + rest, absent}, {":i", two + "br_table 3 0" + rest, absent},
		{":i", two + "i32; br_table 0 1" + rest, fine}, {":i", two + "i64; br_table 0 1" + rest, misfits}, {":i", two + "i64; i32; br_table 0 0" + rest, fine}, {":i", two + "i64; i32; br_table 0 1" + rest, misfits}, {":i", two + "i64; i32; br_table 1 0" + rest, misfits}, {":i", two + "i32; i32; br_table 1 2 1" + rest, fine}, {":i", two + "i32; i32; br_table 0 1" + rest, misfits}, {":i", two + "i32; i32; br_table 1 2 0" + rest, misfits},
		{":", two + "br_table 2" + rest + "; drop", fine}, {":", two + "br_table 2 0" + rest + "; drop", misfits}, {":", two + "br_table 0 2" + rest + "; drop", misfits}, {":", two + "br_table 1 0 2 1" + rest + "; drop", misfits}, {":", two + "br_table 2 2 2" + rest + "; drop", fine},
		{":iI", "block :Ii; unreachable; br_table 0 1; end; drop; drop; i32; i64", fine}, {":iI", "block :Ii; unreachable; i32; i32; br_table 0 1; end; drop; drop; i32; i64", misfits}, {":iI", "block :ii; unreachable; i64; i32; br_table 1 1; end; drop; drop; i32; i64", fine}, {":iI", "block :ii; unreachable; i64; i32; br_table 1 0; end; drop; drop; i32; i64", misfits}, {":iI", "block :II; unreachable; i64; i32; br_table 1 0; end; drop; drop; i32; i64", fine}, {":iI", "block :II; unreachable; i64; i32; br_table 0 1; end; drop; drop; i32; i64", fine}, {":iI", "block :I; unreachable; i64; i32; br_table 0 1; end; drop; i32; i64", misfits},
		{":i", "i32; loop i:i; drop; block :I; unreachable; br_table 0 1 2; end; wrap; end", fine}, {":i", "loop :i; block :I; unreachable; br_table 0 1; end; wrap; end", misfits},
		{":I", "block :i; unreachable; unreachable; unreachable; select; i32; br_table 0 1; end; drop; i64", fine}, {":I", "block :i; unreachable; i32; i32; select; i32; br_table 0 1; end; drop; i64", misfits}, {":I", "block :i; unreachable; drop; i32; br_table 0 1; end; drop; i64", fine}, {":I", "block :i; i32; br 0; br_table 0 1; end; drop; i64", fine},
	})
}

// P10.1: at an end, and at an else, there is just what comes out.
func TestEnds(t *testing.T) {
	each(t, []told{
		{":", "", fine}, {":i", "", misfits}, {":", "i32", misfits}, {":i", "i32", fine}, {":i", "i64", misfits}, {":i", "i32; i32", misfits}, {":i", "i64; i32", misfits}, {":iI", "i32; i64", fine}, {":iI", "i64; i32", misfits}, {":iI", "i64", misfits}, {"i:i", "", misfits}, {"i:", "", fine}, {"i:", "local.get 0", misfits}, {"i:i", "local.get 0", fine},
		{":", "block; end", fine}, {":", "block; i32; end", misfits}, {":i", "block :i; end", misfits}, {":i", "block :i; i32; end", fine}, {":i", "block :i; i64; end", misfits}, {":i", "block :i; i32; i32; end", misfits}, {":", "block :i; i32; end", misfits}, {":i", "block; i32; end", misfits}, {":i", "block; end", misfits}, {":I", "block :i; i32; end", misfits},
		{":i", "loop :i; end", misfits}, {":i", "loop :i; i32; end", fine}, {":i", "loop; i32; end", misfits}, {":i", "i32; loop i:; drop; end; i32", fine}, {":i", "i32; loop i:; end; i32", misfits}, {":i", "loop :i; i32; i64; end", misfits},
		{":i", "i32; if :i; i32; else; i32; end", fine}, {":i", "i32; if :i; i64; else; i32; end", misfits}, {":i", "i32; if :i; i32; else; i64; end", misfits}, {":i", "i32; if :i; else; i32; end", misfits}, {":i", "i32; if :i; i32; else; end", misfits}, {":i", "i32; if :i; i32; i32; else; i32; end", misfits}, {":i", "i32; if :i; i64; i32; else; i32; end", misfits}, {":i", "i32; if :i; i32; else; i32; i32; end", misfits}, {":i", "i32; if :i; i32; else; i64; i32; end", misfits},
		{":", "i32; if; i32; else; end", misfits}, {":", "i32; if; else; i32; end", misfits}, {":", "i32; if; i32; drop; else; i64; drop; end", fine}, {":i", "i32; if :i; unreachable; i32; i32; else; i32; end", misfits}, {":i", "i32; if :i; unreachable; i64; else; i32; end", misfits}, {":i", "i32; if :i; unreachable; i32; else; i32; end", fine},
		{":i", "unreachable; i64", misfits}, {":i", "unreachable; i32; i32", misfits}, {":i", "unreachable; i32", fine}, {":iI", "unreachable; i64", fine}, {":iI", "unreachable; i32", misfits}, {":", "unreachable; i32", misfits}, {":i", "block :i; unreachable; i32; i32; end", misfits}, {":i", "block :i; unreachable; i64; end", misfits}, {":i", "block; unreachable; i32; end; i32", misfits},
	})
}

// P10.1: a block takes no deeper than its own stack; what was below it is there again behind it.
func TestBelow(t *testing.T) {
	each(t, []told{
		{":", "i32; block; drop; end", misfits}, {":i", "i32; block; drop; i32; end", misfits}, {":i", "i32; block; end", fine}, {":i", "i32; loop; drop; end", misfits}, {":", "i32; i32; if; drop; end", misfits}, {":", "i32; i32; if; else; drop; end", misfits}, {":i", "i32; i32; if; end", fine}, {":i", "i32; i32; if; else; end", fine},
		{":i", "i32; block :i; end", misfits}, {":i", "i32; block :i; i32; add; end", misfits}, {":i", "i32; block :i; i32; end; add", fine}, {":i", "i32; block; br 1; end", misfits}, {":i", "i32; block; i32; br 1; end", fine}, {":i", "i32; block; return; end", misfits}, {":i", "i32; block :i; br 0; end; add", misfits},
		{":", "i32; block i:; drop; end", fine}, {":", "i32; i32; block i:; drop; drop; end", misfits}, {":", "i32; i32; block ii:; drop; drop; end", fine}, {":", "i32; block; local.set 0; end", absent}, {"i:", "i32; block; local.set 0; end", misfits}, {":", "i32; block; i32; select; end", misfits}, {":", "i32; block; br_if 0; end", misfits}, {":", "i32; block; br_table 0; end", misfits}, {":", "i32; block; if; end; end", misfits}, {":", "i32; block; block i:; drop; end; end", misfits},
		{":iI", "i32; block :I; i64; end", fine}, {":Ii", "i32; block :I; i64; end", misfits}, {":iII", "i32; block; end; i64; block; end; i64", fine}, {":ii", "i32; block; unreachable; end; i32", fine}, {":i", "i32; block; unreachable; drop; drop; drop; end", fine}, {":", "i32; block; unreachable; drop; drop; end", misfits},
	})
}

// P10.1: blocks whose type has things that go in: these are on the stack, and on their own.
func TestGoingIn(t *testing.T) {
	each(t, []told{
		{":i", "i32; block i:i; end", fine}, {":i", "block i:i; end", misfits}, {":i", "i64; block i:i; end", misfits}, {":iI", "i32; i64; block iI:iI; end", fine}, {":iI", "i64; i32; block iI:iI; end", misfits}, {":iI", "i64; block iI:iI; end", misfits}, {":Ii", "i32; i64; block iI:Ii; drop; drop; i64; i32; end", fine}, {":Ii", "i32; i64; block iI:Ii; end", misfits},
		{":I", "i32; block i:I; drop; i64; end", fine}, {":I", "i32; block i:I; ac; end", fine}, {":I", "i32; block i:I; end", misfits}, {":I", "i32; block i:I; i64; end", misfits}, {":II", "i64; i32; block i:I; ac; end", fine},
		{":i", "i32; loop i:i; end", fine}, {":i", "loop i:i; end", misfits}, {":i", "i64; loop i:i; end", misfits}, {":i", "i32; loop i:i; br 0; end", fine}, {":i", "i32; loop i:i; i32; br_if 0; end", fine}, {":", "i32; loop i:; br 0; end", fine}, {":", "i32; loop i:; drop; br 0; end", misfits},
		{":i", "i32; i32; if i:i; end", fine}, {":i", "i32; if i:i; end", misfits}, {":i", "i64; i32; if i:i; end", misfits}, {":i", "i32; i64; if i:i; end", misfits}, {":I", "i64; i32; if I:I; end", fine}, {":I", "i64; i32; if I:I; else; end", fine}, {":I", "i32; i64; if I:I; end", misfits},
		{":I", "i32; i32; if i:I; ac; else; ad; end", fine}, {":I", "i32; i32; if i:I; ac; else; end", misfits}, {":I", "i32; i32; if i:I; else; ad; end", misfits}, {":I", "i32; i32; if i:I; ac; else; i64; end", misfits}, {":I", "i32; i32; if i:I; ac; else; drop; drop; i64; end", misfits}, {":i", "i32; i32; if i:; drop; else; drop; end; i32", fine}, {":i", "i32; i32; if i:; drop; else; end; i32", misfits},
	})
}

// P10.1: an if without an else has the same types going in and coming out.
func TestIfAlone(t *testing.T) {
	each(t, []told{
		{":", "i32; if; end", fine}, {":i", "i32; if :i; i32; end", misfits}, {":i", "i32; if :i; unreachable; end", misfits}, {":i", "unreachable; if :i; unreachable; end", misfits}, {":i", "unreachable; if :i; unreachable; else; unreachable; end", fine}, {":I", "i32; if :I; i64; end", misfits},
		{":i", "i32; i32; if i:i; end", fine}, {":i", "i32; i32; if i:i; drop; i32; end", fine}, {":I", "i32; i32; if i:I; ac; end", misfits}, {":I", "i32; i32; if i:I; unreachable; end", misfits}, {":", "i32; i32; if i:; drop; end", misfits}, {":", "i32; i32; if i:; drop; else; drop; end", fine},
		{":iI", "i32; i64; i32; if iI:iI; end", fine}, {":Ii", "i32; i64; i32; if iI:Ii; drop; drop; i64; i32; end", misfits}, {":Ii", "i32; i64; i32; if iI:Ii; drop; drop; i64; i32; else; drop; drop; i64; i32; end", fine}, {":ii", "i32; i32; if i:ii; i32; end", misfits}, {":i", "i32; i32; i32; if ii:i; drop; end", misfits}, {":i", "i32; i32; i32; if ii:i; add; else; add; end", fine},
		{":", "i32; if; i32; if; end; else; i32; if; end; end", fine}, {":i", "i32; if :i; i32; if :i; i32; else; i32; end; else; i32; end", fine}, {":i", "i32; if :i; i32; if :i; i32; end; else; i32; end", misfits}, {":", "i64; if; end", misfits}, {":", "if; else; end", misfits}, {":", "block; end; if; end", misfits},
	})
}

// deaths are what a branch that is always taken may be, in a block that gives nothing.
func deaths() []string {
	return []string{"unreachable", "br 0", "i32; br_table 0", "i32; br_table 0 0", "return", "i64; i32; br 0", "unreachable; unreachable", "br 0; i32; drop", "unreachable; block; end", "unreachable; i32; if; else; end", "return; loop; br 0; end"}
}

// P10.1: behind a branch that is always taken are values of any type, up to the end or the else of
// its block, and not further.
func TestDead(t *testing.T) {
	for _, d := range deaths() {
		for _, x := range []struct {
			text  string
			right bool
		}{
			{"%s", true}, {"%s; drop", true}, {"%s; drop; drop; drop", true}, {"%s; add; drop", true}, {"%s; i64.add; wrap; drop", true}, {"%s; i32; add; drop", true}, {"%s; i64; add; drop", false}, {"%s; i32; i64; add; drop", false}, {"%s; i64.eqz; i64.eqz; drop", false}, {"%s; i64.eqz; eqz; drop", true}, {"%s; i32", false}, {"%s; add", false},
			{"%s; call 3; drop; drop", true}, {"%s; i64; call 3; drop; drop", true}, {"%s; i32; call 3; drop; drop", false}, {"%s; i64; i64; call 3; drop; drop", false},
			{"block; %s; end", true}, {"block; %s; end; drop", false}, {"block; %s; end; i32; drop", true}, {"loop; %s; drop; end", true}, {"loop; %s; end; drop", false}, {"block; block; %s; end; drop; end", false}, {"block; block; %s; drop; end; end", true},
			{"i32; if; %s; else; end", true}, {"i32; if; %s; drop; else; end", true}, {"i32; if; %s; else; drop; end", false}, {"i32; if; else; %s; drop; end", true}, {"i32; if; %s; else; %[1]s; end", true}, {"i32; if; %s; else; %[1]s; drop; end; drop", false}, {"i32; if; %s; else; end; drop", false}, {"i32; if; %s; end", true}, {"i32; if; drop; else; %s; end", false},
			{"%s; block; drop; end", false}, {"%s; block i:; drop; end", true}, {"%s; block iI:; drop; i64; drop; drop; end", true}, {"%s; block i:; drop; drop; end", false}, {"%s; loop i:; drop; end", true}, {"%s; loop; drop; end", false}, {"%s; if; drop; end", false}, {"%s; if; end", true}, {"%s; if i:i; end; drop", true}, {"%s; if i:; drop; else; drop; end", true}, {"%s; i64; if; end", false}, {"%s; i64; block i:; drop; end", false}, {"%s; i64; block I:; drop; end", true},
			{"%s; block; end; drop", true}, {"%s; block :i; i32; end; i64.eqz; drop", false}, {"%s; block :i; i32; end; eqz; drop", true}, {"%s; block :i; i32; end", false}, {"%s; if :i; i32; else; i32; end; add; drop", true}, {"%s; loop; br 0; end; drop", true},
			{"%s; br 0; drop", true}, {"%s; br_if 0", true}, {"%s; i64; br_if 0", false}, {"%s; br_table 0 0; drop", true}, {"%s; i64; br_table 0", false}, {"%s; return; drop", true}, {"%s; unreachable; drop", true}, {"%s; unreachable; i32", false}, {"%s; i32; unreachable", true}, {"%s; i32; br 0", true}, {"%s; i32; return", true},
			{"%s; global.set 1", true}, {"%s; i32; global.set 1", false}, {"%s; 37 0 0", true}, {"%s; i64; 37 0 0", true}, {"%s; i32; 37 0 0", false}, {"%s; memory.fill", true}, {"%s; i64; memory.fill", false}, {"%s; memory.grow; drop", true},
		} {
			e := misfits
			if x.right {
				e = fine
			}
			text := strings.ReplaceAll(x.text, "%[1]s", "%s")
			not(t, ":", strings.ReplaceAll(text, "%s", d), e)
			not(t, ":", "block; "+strings.ReplaceAll(text, "%s", d)+"; end", e)
		}
	}
}

// P10.1: select and drop of values of any type: of two of which one has a type the answer has it.
func TestChosen(t *testing.T) {
	each(t, []told{
		{":", "i32; drop", fine}, {":", "i64; drop", fine}, {":", "drop", misfits}, {":i", "i32; i64; drop", fine}, {":I", "i32; i64; drop", misfits}, {":i", "i32; drop; drop; i32", misfits},
		{":i", "i32; i32; i32; select", fine}, {":I", "i64; i64; i32; select", fine}, {":i", "i64; i64; i32; select", misfits}, {":I", "i32; i32; i32; select", misfits}, {":i", "i32; i64; i32; select", misfits}, {":i", "i64; i32; i32; select", misfits}, {":I", "i32; i64; i32; select", misfits}, {":I", "i64; i64; i64; select", misfits}, {":i", "i32; i32; i64; select", misfits}, {":i", "i32; i32; select", misfits}, {":i", "i32; select", misfits}, {":i", "select", misfits}, {":ii", "i32; i32; i32; i32; select", fine},
		{":i", "unreachable; select", fine}, {":I", "unreachable; select", fine}, {":", "unreachable; select; drop", fine}, {":", "unreachable; select", misfits}, {":i", "unreachable; i32; select", fine}, {":I", "unreachable; i32; select", fine}, {":i", "unreachable; i64; select", misfits},
		{":i", "unreachable; i32; i32; select", fine}, {":I", "unreachable; i32; i32; select", misfits}, {":I", "unreachable; i64; i32; select", fine}, {":i", "unreachable; i64; i32; select", misfits}, {":i", "unreachable; i32; i32; i32; select", fine}, {":i", "unreachable; i32; i64; i32; select", misfits}, {":i", "unreachable; i64; i32; i32; select", misfits}, {":I", "unreachable; i64; i64; i32; select", fine},
		{":i", "unreachable; select; eqz", fine}, {":i", "unreachable; select; i64.eqz", fine}, {":i", "unreachable; i32; i32; select; eqz", fine}, {":i", "unreachable; i32; i32; select; i64.eqz", misfits}, {":i", "unreachable; i64; i32; select; i64.eqz", fine}, {":i", "unreachable; i64; i32; select; eqz", misfits},
		{":i", "unreachable; select; i32; i32; select", fine}, {":i", "unreachable; select; i64; i32; select", misfits}, {":I", "unreachable; select; i64; i32; select", fine}, {":I", "unreachable; i64; select; i64; i32; select", misfits}, {":I", "unreachable; i64; i32; select; i64; i32; select", fine}, {":I", "unreachable; i32; i32; select; i64; i32; select", misfits}, {":I", "unreachable; i64; select; select; wrap", misfits},
		{":i", "unreachable; i64; select; select", misfits}, {":i", "unreachable; select; select; select", fine}, {":i", "unreachable; i32; select; i32; select; i32; select", fine}, {":ii", "unreachable; select; i32", fine}, {":iI", "unreachable; select; i32", misfits}, {":", "unreachable; select; i32", misfits}, {":", "unreachable; select; select; drop; i64", misfits},
		{":i", "unreachable; select; select; i64; i32; select", misfits}, {":", "unreachable; i32; i32; select", misfits}, {":i", "unreachable; drop; i32", fine}, {":i", "unreachable; i64; drop", fine}, {":i", "unreachable; i64; drop; drop", fine}, {":", "unreachable; i64; i32; drop", misfits},
	})
}

// P10.3: what is dead from the beginning on is taken, as long as all that it names is there, A is
// right, and nothing in it gives what doesn't fit.
func TestDeadFromTheBeginning(t *testing.T) {
	for _, r := range plainRows() {
		for _, s := range plainRows() {
			if r.gives == "" || s.takes == "" {
				in(t, world(), ":", "iI", "unreachable; "+r.text+"; "+s.text+strings.Repeat("; drop", len(r.gives+s.gives))+"; end", fine)
			}
		}
	}
	not(t, ":", "unreachable; global.set 0", api.ErrArg)
	not(t, ":", "unreachable; 28 3 0; drop", api.ErrArg)
	for own, text := range map[string]string{":i": "i64", ":I": "eqz", ":": "add", ":ii": "wrap; ac", ":iI": "select; memory.size"} {
		off(t, own, "unreachable; "+text)
	}
}

// P10.1: as many blocks as there may be, with branches to each of them and to none.
func TestDeep(t *testing.T) {
	for _, kind := range []string{"block :i; ", "loop :i; "} {
		deep := strings.Repeat(kind, api.MaxDeep)
		rest := strings.Repeat("; end", api.MaxDeep+1)
		for n := range api.MaxDeep + 2 {
			e := fine
			if n > api.MaxDeep {
				e = absent
			}
			in(t, world(), ":i", "", fmt.Sprintf("%si32; br %d%s", deep, n, rest), e)
			in(t, world(), ":i", "", fmt.Sprintf("%sunreachable; br_table %d%s", deep, n, rest), e)
		}
		in(t, world(), ":i", "", deep+"i32"+rest, fine)
		in(t, world(), ":i", "", deep+"i64"+rest, misfits)
		in(t, world(), ":i", "", deep+kind+"i32; end"+rest, api.ErrForm)
	}
}

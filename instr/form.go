package instr

import (
	"math"

	"trammel/api"
	"trammel/num"
	"trammel/pack"
	"trammel/typ"
)

// The forms of what follows a code.
const (
	absent     = iota // there is no such code
	foreign           // the code is known, but not done here
	bare              // nothing
	blockType         // a block's type
	number            // A
	numbers           // A and B
	labels            // L and A
	zero              // a byte 0
	zeros             // two bytes 0
	numberZero        // A and a byte 0
	small             // K, of 32 bits
	great             // K, of 64 bits
)

const (
	prefix     = 0xfc  // the byte ahead of a code that one byte has no room for
	prefixed   = 0x100 // the first of these codes
	numberBits = 32
	greatest   = 1<<numberBits - 1
)

func form(op int) int {
	switch op {
	case api.Unreachable, api.Nop, api.Else, api.End, api.Return, api.Drop, api.Select:
		return bare
	case api.Block, api.Loop, api.If:
		return blockType
	case api.Br, api.BrIf, api.Call, api.DataDrop, api.ElemDrop,
		api.LocalGet, api.LocalSet, api.LocalTee, api.GlobalGet, api.GlobalSet:
		return number
	case api.CallTable, api.TabInit, api.TabCopy:
		return numbers
	case api.BrTable:
		return labels
	case api.MemSize, api.MemGrow, api.MemFill:
		return zero
	case api.MemCopy:
		return zeros
	case api.MemInit:
		return numberZero
	case api.Const32:
		return small
	case api.Const64:
		return great
	}
	return formByLayer(op)
}

// formByLayer is the form of the codes that the layers below know.
func formByLayer(op int) int {
	if _, _, ok := num.Types(op); ok {
		return bare
	}
	if _, _, _, ok := pack.Access(op); ok {
		return numbers
	}
	if isForeign(op) {
		return foreign
	}
	return absent
}

// isForeign: floats, vectors, references and what is done with them.
func isForeign(op int) bool {
	switch op {
	case 0x1c, 0x25, 0x26, 0x2a, 0x2b, 0x38, 0x39, 0x43, 0x44, 0xd0, 0xd1, 0xd2, 0xfd:
		return true
	case prefixed + 0x0f, prefixed + 0x10, prefixed + 0x11:
		return true
	}
	return within(op, 0x5b, 0x66) || within(op, 0x8b, 0xa6) || within(op, 0xa8, 0xab) ||
		within(op, 0xae, 0xbf) || within(op, prefixed, prefixed+7)
}

func within(n, low, high int) bool { return low <= n && n <= high }

func isNumber(n int) bool { return within(n, 0, greatest) }

// isBlock asks layer 5, which alone knows what a block's type may be.
func isBlock(t int) bool {
	_, e := typ.PutBlock(nil, t)
	return e == api.OK
}

func areLabels(list []int) bool {
	if len(list) > api.MaxLabels {
		return false
	}
	for _, n := range list {
		if !isNumber(n) {
			return false
		}
	}
	return true
}

func isSmall(k int64) bool { return math.MinInt32 <= k && k <= math.MaxInt32 }

package instr

import (
	"trammel/api"
	"trammel/leb"
	"trammel/typ"
)

// bytesOf an instruction that is formed.
func bytesOf(x api.Instr) []byte {
	out := code(x.Op)
	switch form(x.Op) {
	case blockType:
		out, _ = typ.PutBlock(out, x.A) // no error: x is formed
	case number:
		out = leb.PutU(out, uint64(x.A))
	case numbers:
		out = leb.PutU(out, uint64(x.A))
		out = leb.PutU(out, uint64(x.B))
	case labels:
		out = leb.PutU(out, uint64(len(x.L)))
		for _, n := range x.L {
			out = leb.PutU(out, uint64(n))
		}
		out = leb.PutU(out, uint64(x.A))
	case zero:
		out = append(out, 0)
	case zeros:
		out = append(out, 0, 0)
	case numberZero:
		out = append(leb.PutU(out, uint64(x.A)), 0)
	case small, great:
		out = leb.PutS(out, x.K)
	}
	return out
}

func code(op int) []byte {
	if op < prefixed {
		return []byte{byte(op)}
	}
	return leb.PutU([]byte{prefix}, uint64(op-prefixed))
}

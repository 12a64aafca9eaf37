package inst_test

import (
	"math"
	"testing"

	"trammel/api"
	"trammel/inst"
)

func fits(t *testing.T, x api.Import, g api.Given, want bool) {
	t.Helper()
	if got, model := inst.Fits(x, g), modelFits(x, g); got != want || model != want {
		t.Errorf("Fits(%+v, %+v) = %v, of the model %v; want %v", x, g, got, model, want)
	}
}

type fit struct {
	l  api.Limits
	g  api.Given
	ok bool
}

// P13.1: what a table or a memory has, at, below and above each bound but the greatest one.
func TestFitsSize(t *testing.T) {
	for _, kind := range []int{api.Tab, api.Mem} {
		for _, c := range []fit{
			{limits(0), size(0), true}, {limits(0), size(1), true}, {limits(0), size(4), true}, {limits(0), size(-1), false}, {limits(0), size(math.MinInt), false}, {limits(0), size(math.MaxInt), false},
			{limits(2), size(1), false}, {limits(2), size(2), true}, {limits(2), size(3), true}, {limits(2), size(0), false}, {limits(2), size(-2), false},
			{limits(-1), size(-1), false}, {limits(-1), size(0), true}, {limits(math.MinInt), size(math.MinInt), false}, {limits(math.MinInt), size(-1), false}, {limits(math.MinInt), size(0), true},
			{limits(math.MaxInt), size(math.MaxInt), false}, {limits(math.MaxInt), size(4), false},
			{limits(1), sizeTo(2, 1), false}, {limits(1), sizeTo(2, 2), true}, {limits(1), sizeTo(2, 3), true}, {limits(1), sizeTo(2, math.MaxInt), true}, {limits(0), sizeTo(0, 0), true}, {limits(0), sizeTo(0, -1), false}, {limits(0), sizeTo(-1, -1), false}, {limits(0), sizeTo(0, math.MinInt), false},
			{capped(1, 3), size(1), false}, {capped(1, 3), size(3), false}, {capped(1, 3), sizeTo(1, 3), true}, {capped(1, 3), sizeTo(3, 3), true}, {capped(1, 3), sizeTo(1, 2), true}, {capped(1, 3), sizeTo(1, 1), true}, {capped(1, 3), sizeTo(1, 4), false}, {capped(1, 3), sizeTo(3, 4), false}, {capped(1, 3), sizeTo(3, 2), false}, {capped(1, 3), sizeTo(0, 3), false}, {capped(1, 3), sizeTo(0, 0), false}, {capped(1, 3), sizeTo(4, 4), false}, {capped(1, 3), sizeTo(4, 3), false}, {capped(1, 3), sizeTo(1, math.MaxInt), false}, {capped(1, 3), sizeTo(1, math.MinInt), false},
			{capped(0, 0), sizeTo(0, 0), true}, {capped(0, 0), sizeTo(0, 1), false}, {capped(0, 0), size(0), false}, {capped(0, 65536), sizeTo(1, 65536), true}, {capped(0, 65536), sizeTo(1, 65537), false}, {capped(2, 1), sizeTo(2, 1), false}, {capped(2, 1), sizeTo(2, 2), false}, {capped(0, -1), sizeTo(0, -1), false}, {capped(0, math.MinInt), sizeTo(0, 0), false},
			{api.Limits{Min: 1, Max: 2}, sizeTo(3, 9), true}, {api.Limits{Min: 1, Max: -1}, size(3), true}, {api.Limits{Min: 1}, size(3), true}, {limits(1), api.Given{Size: 3, Max: 2}, true}, {limits(1), api.Given{Size: 3, Max: math.MinInt}, true}, {capped(1, 3), api.Given{Size: 2, Max: 3}, false},
		} {
			fits(t, api.Import{Kind: kind, Limits: c.l}, c.g, c.ok)
			c.g.Type, c.g.Mutable, c.g.Value = api.I64, true, math.MaxUint64
			fits(t, api.Import{Module: "m", Name: "n", Kind: kind, Limits: c.l, Type: 5}, c.g, c.ok)
		}
	}
}

// P13.1: a table has at most 64 entries, a memory at most 4 pages, be they capped or not.
func TestFitsMost(t *testing.T) {
	for _, c := range []struct{ kind, most int }{{api.Tab, 64}, {api.Mem, 4}} {
		for _, least := range []int{0, 1, c.most - 1, c.most, c.most + 1, c.most + 2} {
			for n := range c.most + 3 {
				ok := n >= least && n <= c.most
				fits(t, api.Import{Kind: c.kind, Limits: limits(least)}, size(n), ok)
				fits(t, api.Import{Kind: c.kind, Limits: limits(least)}, sizeTo(n, c.most+2), ok)
				fits(t, api.Import{Kind: c.kind, Limits: capped(least, c.most+2)}, sizeTo(n, c.most+2), ok)
				fits(t, api.Import{Kind: c.kind, Limits: capped(least, c.most+1)}, sizeTo(n, c.most+2), false)
				fits(t, api.Import{Kind: c.kind, Limits: capped(least, c.most+2)}, sizeTo(n, n), ok)
				fits(t, api.Import{Kind: c.kind, Limits: limits(least)}, sizeTo(n, n-1), false)
			}
		}
	}
	for _, n := range []int{65, 128, 65536, 1 << 32, 1<<32 + 1, math.MaxInt} {
		fits(t, api.Import{Kind: api.Tab}, size(n), false)
		fits(t, api.Import{Kind: api.Mem}, size(n), false)
	}
}

// P13.1: all limits and givens of numbers near one another and near both ends.
func TestFitsAll(t *testing.T) {
	numbers := []int{math.MinInt, -1, 0, 1, 3, 4, 5, 63, 64, 65, math.MaxInt}
	met := map[[2]int]bool{}
	for _, kind := range []int{-1, api.Fn, api.Tab, api.Mem, 4} {
		for _, least := range numbers {
			for _, most := range numbers {
				for _, n := range numbers {
					for _, own := range numbers {
						for _, is := range []uint{0, 1, 2, 3} {
							x := api.Import{Kind: kind, Limits: api.Limits{Min: least, Capped: is&1 != 0, Max: most}}
							g := api.Given{Size: n, Capped: is&2 != 0, Max: own}
							want := modelFits(x, g)
							fits(t, x, g, want)
							if want {
								met[[2]int{kind, n}] = true
							}
						}
					}
				}
			}
		}
	}
	if len(met) != 7+4 {
		t.Error(met)
	}
}

// P13.1: a global's type, whether it is mutable, and bits beyond its type's.
func TestFitsGlobal(t *testing.T) {
	types := []int{api.I32, api.I64}
	for _, kind := range types {
		for _, given := range types {
			for _, is := range []uint{0, 1, 2, 3} {
				for _, n := range []uint64{0, 1, 1<<31 - 1, 1 << 31, 1<<32 - 1, 1 << 32, 1<<32 + 1, 1 << 63, 0xffffffff00000000, 0xffffffff80000000, math.MaxUint64} {
					x := api.Import{Kind: api.Glo, Type: kind, Mutable: is&1 != 0}
					g := api.Given{Type: given, Mutable: is&2 != 0, Value: n}
					ok := kind == given && is != 1 && is != 2 && (kind == api.I64 || n < 1<<32)
					fits(t, x, g, ok)
					x.Limits = capped(5, 3)
					g.Size, g.Capped, g.Max = -1, true, -2
					fits(t, x, g, ok)
				}
			}
		}
	}
	for _, odd := range []int{0, -1, -2, 0x70, 0x7d, math.MinInt, math.MaxInt} {
		fits(t, api.Import{Kind: api.Glo, Type: odd}, api.Given{Type: odd}, true)
		fits(t, api.Import{Kind: api.Glo, Type: odd}, api.Given{Type: api.I32}, false)
		fits(t, api.Import{Kind: api.Glo, Type: api.I32}, api.Given{Type: odd}, false)
	}
}

// P13.1: functions, and what is of no kind, nothing fits.
func TestFitsNothing(t *testing.T) {
	for _, kind := range []int{api.Fn, -1, 4, 5, 257, 1 << 32, 1<<32 + 1, math.MinInt, math.MaxInt} {
		for _, g := range []api.Given{{}, size(1), sizeTo(1, 2), {Type: api.I32}, {Type: api.I64, Value: 7}} {
			fits(t, api.Import{Kind: kind}, g, false)
			fits(t, api.Import{Kind: kind, Type: api.I32, Limits: capped(1, 2)}, g, false)
		}
	}
}

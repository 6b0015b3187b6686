package mean_test

import (
	"math"
	"slices"
	"testing"

	"escapement/api"
	"escapement/mean"
	"escapement/syn"
)

func holdFits(t *testing.T, vars []syn.Var, r api.Row, want bool) {
	t.Helper()
	if got := mean.Fits(vars, r); got != want {
		t.Errorf("P12.1: Fits(%v, %v): %v", vars, r, got)
	}
}

// P12.1: as many values as names.
func TestFitsCounts(t *testing.T) {
	for count := range 5 {
		for size := range 7 {
			for _, k := range []api.Kind{api.Int, api.Bool} {
				holdFits(t, slices.Repeat([]syn.Var{{Kind: k}}, count), make(api.Row, size), count == size)
			}
		}
	}
	holdFits(t, nil, nil, true)
	holdFits(t, []syn.Var{}, nil, true)
	holdFits(t, nil, api.Row{}, true)
	holdFits(t, nil, api.Row{0}, false)
	holdFits(t, []syn.Var{{Kind: api.Int}}, nil, false)
	// Spare room is none of a row.
	holdFits(t, []syn.Var{{Kind: api.Int}}, api.Row{1, 2}[:1], true)
	holdFits(t, []syn.Var{{Kind: api.Int}, {Kind: api.Int}}, api.Row{1, 2}[:1], false)
	holdFits(t, []syn.Var{{Kind: api.Int}, {Kind: api.Bool}}[:1], api.Row{5}, true)
}

// P12.1: bools are 0 or 1, at each place; ints are any.
func TestFitsBools(t *testing.T) {
	for _, n := range append(slices.Clone(edges), 256, 257, 1<<32, 1<<32+1, -256, math.MinInt64+2) {
		isBool := n == 0 || n == 1
		for k := range 4 {
			bools, ints, r := slices.Repeat([]syn.Var{{Kind: api.Bool}}, 4), slices.Repeat([]syn.Var{{Kind: api.Int}}, 4), api.Row{0, 1, 1, 0}
			r[k] = n
			holdFits(t, bools, r, isBool)
			holdFits(t, ints, r, true)
			bools[k].Kind, ints[k].Kind = api.Int, api.Bool
			holdFits(t, bools, r, true)
			holdFits(t, ints, r, isBool)
		}
	}
}

// P12.1: what stands in a name beside its kind is not asked, and what is no bool is any.
func TestFitsAsksKindsAlone(t *testing.T) {
	for _, kind := range []api.Kind{api.None, api.Int, -1, 3, math.MaxInt} {
		holdFits(t, []syn.Var{{Name: "a", Kind: kind, On: "b", Not: true, At: 7}}, api.Row{2}, true)
	}
	holdFits(t, []syn.Var{{Name: "a", Kind: api.Bool, On: "b", Not: true, At: -7}, {Name: "a", Kind: api.Bool}}, api.Row{1, 0}, true)
	holdFits(t, []syn.Var{{Name: "a", Kind: api.Bool, On: "b", Not: true, At: -7}, {Name: "a", Kind: api.Bool}}, api.Row{1, 2}, false)
}

// R4: Fits changes nothing.
func TestFitsChangesNothing(t *testing.T) {
	vars, r := []syn.Var{{Name: "a", Kind: api.Int}, {Name: "b", Kind: api.Bool}, {Name: "spare"}}, api.Row{7, 1, 9}
	if !mean.Fits(vars[:2], r[:2]) || !slices.Equal(r, api.Row{7, 1, 9}) || !slices.Equal(vars, []syn.Var{{Name: "a", Kind: api.Int}, {Name: "b", Kind: api.Bool}, {Name: "spare"}}) {
		t.Errorf("R4: Fits changed what was handed in: %v, %v", vars, r)
	}
}

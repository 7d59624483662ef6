package program_test

import (
	"testing"

	"saturate/api"
	"saturate/program"
)

// TestCheckGeneric checks that CheckGeneric differs from CheckAtoms for generic patterns alone, whose widths are compared like others (P28.1).
func TestCheckGeneric(t *testing.T) {
	for i, c := range []struct {
		atoms []api.Atom
		want  api.Errno
	}{
		{atoms(t, "", "?a:0"), api.OK}, {atoms(t, "r", "(add ?a:0 1:0)", "", "(eq ?r:0 ?a:0)"), api.OK}, {atoms(t, "", "(eq ?a:0 ?b:0)", "", "?c:8"), api.OK}, {atoms(t, "", "?a:8", "a", "1:8"), api.OK},
		{nil, api.ErrLong}, {make([]api.Atom, 5), api.ErrLong}, {atoms(t, "", "x:0"), api.ErrOp}, {atoms(t, "A", "?a:0"), api.ErrName}, {atoms(t, "A", "?a:0", "", "x:0"), api.ErrName}, {atoms(t, "", "?a:0", "A", "?a:4"), api.ErrName},
		{atoms(t, "", "?a:0", "", "?a:8"), api.ErrBind}, {atoms(t, "", "?a:0", "", "#a:0"), api.ErrBind}, {atoms(t, "a", "1:0", "", "?a:8"), api.ErrBind}, {atoms(t, "a", "1:0", "", "?a:0"), api.OK},
		{[]api.Atom{{Pattern: holes(0, 16)}, atoms(t, "", "?a:0")[0]}, api.ErrLong}, {[]api.Atom{{Pattern: holes(0, 15)}, atoms(t, "", "?a:0")[0]}, api.OK},
	} {
		if e := program.CheckGeneric(c.atoms); e != c.want {
			t.Errorf("case %d: %d, not %d", i, e, c.want)
		}
	}
}

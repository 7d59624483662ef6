package pattern_test

import (
	"testing"

	"saturate/api"
	"saturate/pattern"
)

// TestBound checks Bound, which tells whether a pattern has names beyond those of a rule (P27.1, P28.1).
func TestBound(t *testing.T) {
	holes := []api.Var{{Name: "a", Width: 8}, {Name: "g", Width: 0}}
	nums := []api.Var{{Name: "c", Width: 4}, {Name: "a", Width: 2}}
	for s, want := range map[string]bool{
		"?a:8": true, "#c:4": true, "(concat ?a:8 #c:4)": true, "(eval (not #c:4))": true, "3:8": true, "x:8": true, "(add ?g:0 1:0)": true, "#a:2": true,
		"?a:4": false, "?a:0": false, "?g:8": false, "?c:4": false, "#c:8": false, "#g:0": false, "?b:8": false, "#b:4": false, "(eval #d:4)": false, "(concat ?a:8 #d:4)": false, "(concat ?b:8 #c:4)": false,
	} {
		if pattern.Bound(read(t, s), holes, nums) != want {
			t.Error(s)
		}
	}
	if pattern.Bound(read(t, "?a:8"), nil, nums) || pattern.Bound(read(t, "#c:4"), holes, nil) || !pattern.Bound(read(t, "1:8"), nil, nil) {
		t.Error("without holes or nums")
	}
}

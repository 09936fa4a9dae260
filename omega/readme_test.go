package omega_test

import (
	"testing"

	"quantale/api"
	"quantale/formula"
	"quantale/linear"
	"quantale/omega"
)

// TestReadme follows the example of README.md.
func TestReadme(t *testing.T) {
	vars := []api.Decl{{Name: "x", Sort: api.SInt}}
	n, _ := formula.Read("x + 1 <= 3", vars, nil)
	less, _, _ := linear.FromLiteral(n, true)
	other, _ := formula.Read("2 < x", vars, nil)
	more, _, _ := linear.FromLiteral(other, true)
	var a answers
	if _, _, sat, e := a.ask(t, append(less, more...)); sat || e != api.OK {
		t.Errorf("P5.2: %v, %d", sat, e)
	}
	if _, nums, sat, e := a.ask(t, less); !sat || e != api.OK || nums[0] != 0 {
		t.Errorf("P5.2: %v, %v, %d", nums, sat, e)
	}
	if least, most, kind, e := omega.Bounds(less, less[0].Form); least != 0 || most != 0 || kind != 3 || e != api.OK {
		t.Errorf("P5.3: %d, %d, %d, %d", least, most, kind, e)
	}
}

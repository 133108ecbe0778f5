package cells

import (
	"runtime"
	"testing"

	"rubric/api"
)

// TestMayOfTheGreatestLength has 2^29 cells, and one more, most of which are never written to, so that they take room (16 GiB) of the address space alone. It is the first test of all, files being gone over by their names: where others have been ahead of it, all that room is made zero first.
func TestMayOfTheGreatestLength(t *testing.T) {
	t.Cleanup(runtime.GC) // or the tests behind it would be left as much room for what is no more needed
	s := made(t, keys())
	const most = 1 << 29
	d := make([]api.Cell, most+1)
	check := func(what string, d []api.Cell, want api.Errno) {
		t.Helper()
		if e := May(s, d); e != want {
			t.Fatalf("%s: %d; want %d", what, e, want)
		}
	}
	d[most-1], d[most] = cell(10, attr(12, num(1))), cell(10, bold())
	check("as many cells as may be", d[:most], api.OK)
	check("one more", d, api.ErrMalformed)
	check("as many, of which the last has an inline key", d[1:], api.ErrScope)
}

func TestLimits(t *testing.T) {
	if api.MaxLen != 1<<29 || api.MaxKeys != 64 || api.MaxText != 64 || api.Newline != 10 {
		t.Error("limits", api.MaxLen, api.MaxKeys, api.MaxText, api.Newline)
	}
}

package span

import (
	"testing"

	"wharfage/api"
)

// TestPartsStop holds that parts end where a range over them is left: yield may not be called again behind that.
func TestPartsStop(t *testing.T) {
	l := []api.Span{{From: 0, To: 4}, {From: 6, To: 9}}
	many := 0
	for range parts(l, api.Span{From: 2, To: 7}, api.Span{}) {
		many++
	}
	if many != 5 {
		t.Errorf("%d parts", many)
	}
	for left := range many {
		n := 0
		for range parts(l, api.Span{From: 2, To: 7}, api.Span{}) {
			if n == left {
				break
			}
			n++
		}
		if n != left {
			t.Errorf("%d parts, not %d", n, left)
		}
	}
}

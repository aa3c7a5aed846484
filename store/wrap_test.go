package store

import (
	"errors"
	"testing"

	"wharfage/api"
)

// TestWrap holds that an error of a layer beneath can be told through what is around it.
func TestWrap(t *testing.T) {
	if err := wrap("append", api.OK); err != nil || number(err) != api.OK || isFull(err) {
		t.Errorf("of no error: %v", err)
	}
	for e := api.ErrNil; e <= api.ErrUsed; e++ {
		err := wrap("append", e)
		if !errors.Is(err, e) || errors.Is(err, api.OK) || number(err) != e || isFull(err) != (e == api.ErrFull || e == api.ErrLimit) {
			t.Errorf("%d: %v, %d", e, err, number(err))
		}
		err = &broken{n: 3, why: wrap("get", e)}
		if !errors.Is(err, e) || number(err) != api.ErrForm || err.Error() != "batch 3: get: "+e.Error() {
			t.Errorf("%d: %v, %d", e, err, number(err))
		}
	}
}

package oops

import (
	"errors"
	"testing"
)

// TestMost: R1, a search ends with the last error that it may examine, even if
// the chain has far too many for it.
func TestMost(t *testing.T) {
	e := errors.New("x")
	for range 100 {
		e = errors.Join(e, e)
	}
	for _, most := range []int{0, 1, 5, 1000} {
		examined := 0
		s := newSearch(most, func(error) bool {
			examined++
			return false
		})
		if errors.As(link{err: e, search: s}, new(*Step)) || examined != most {
			t.Errorf("examined %d, want %d", examined, most)
		}
	}
}

package member

import (
	"testing"

	"chartulary/api"
)

// The statuses are those of package api.
func TestStatuses(t *testing.T) {
	for s, n := range map[status]int{alive: api.Alive, suspect: api.Suspect, dead: api.Dead, left: api.Left} {
		if int(s) != n || statusOf(api.Member{Status: n}) != s {
			t.Errorf("the status %d is %d", n, s)
		}
	}
}

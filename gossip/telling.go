package gossip

import (
	"cmp"

	"chartulary/api"
)

// telling is a word, and how often it was told.
type telling struct {
	api.Member
	told int
}

// sooner tells whether a is told ahead of b.
func sooner(a, b telling) bool {
	return cmp.Or(cmp.Compare(a.told, b.told), cmp.Compare(a.ID, b.ID)) < 0
}

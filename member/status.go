package member

import "chartulary/api"

// status is how a node is, as a word about it says.
type status int

// The statuses stand in the order of api's numbers, for of one incarnation the later one is over the earlier one.
const (
	alive status = iota + 1
	suspect
	dead
	left
)

// statusOf tells the status of a word.
func statusOf(m api.Member) status {
	return status(m.Status)
}

// known tells whether s is one of the statuses.
func (s status) known() bool {
	return s >= alive && s <= left
}

// live tells whether who is so can be asked.
func (s status) live() bool {
	return s == alive || s == suspect
}

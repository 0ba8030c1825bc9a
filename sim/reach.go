package sim

import "casket/api"

// reach is how far an act came with the register. Its fate hangs on nothing else.
type reach int

const (
	untouched reach = iota // what was pending may still be
	cleared                // nothing is pending
	pended                 // the act's own root is pending
	committed              // what was pending is the current one
)

var fates = [...]int{untouched: api.FateNone, cleared: api.FateClear, pended: api.FateOpen, committed: api.FateDone}

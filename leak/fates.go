package leak

import "casket/api"

// states is the two that an oracle keeps, each of which may be missing.
type states struct {
	counts state
	open   state // its root's tag is pending: it may count yet
}

// fates is what each fate does, of the act that was asked for.
func fates() [api.FateClear + 1]func(*states, asked) {
	return [...]func(*states, asked){
		api.FateNone:  (*states).stay,
		api.FateDone:  (*states).count,
		api.FateOpen:  (*states).leaveOpen,
		api.FateClear: (*states).clear,
	}
}

func (s *states) stay(asked) {}

// count lets the candidate count. A Recover has none: of it, what was open is the one that the register's Commit took up.
func (s *states) count(a asked) {
	if a.kind == api.ActRecover {
		a.candidate = s.open
	}
	if !a.candidate.isMissing() {
		*s = states{counts: a.candidate}
	}
}

func (s *states) leaveOpen(a asked) {
	if !a.candidate.isMissing() {
		s.open = a.candidate
	}
}

// clear drops what is open, of an act that touches the register at all, whether it has a candidate or not.
func (s *states) clear(a asked) {
	switch a.kind {
	case api.ActFormat, api.ActRecover, api.ActBatch:
		s.open = state{}
	}
}

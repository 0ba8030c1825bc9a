package leak

import (
	"slices"

	"casket/api"
)

// script is what an oracle keeps: the acts that were not asked for yet, the one that waits to be told of, and the states
// that the fates so far have led to.
type script struct {
	config api.Config
	left   []act
	asked  *asked // nil: nothing was asked for since Tell last took a fate
	states states
}

// act is no more of an act than may show in a hint: what else it holds is dropped where it comes in.
type act struct {
	hint api.Hint // but for the touches of a batch, which hang on the fates ahead of it
	ops  []api.Op // of a batch
}

// asked is an act that was asked for, as far as a fate asks.
type asked struct {
	kind      int
	candidate state
}

func newScript(c api.Config, acts []api.Act) *script {
	left := make([]act, len(acts))
	for i, a := range acts {
		left[i] = known(a)
	}
	return &script{config: c, left: left}
}

func known(a api.Act) act {
	switch a.Kind {
	case api.ActBatch:
		return act{hint: api.Hint{Kind: a.Kind}, ops: slices.Clone(a.Ops)}
	case api.ActFuse:
		return act{hint: api.Hint{Kind: a.Kind, I: a.I}}
	case api.ActEdit:
		return act{hint: api.Hint{Kind: a.Kind, Edit: a.Edit}}
	}
	return act{hint: api.Hint{Kind: a.Kind}}
}

// next is the hint of the first act that is left; there is one. The candidate is found here, not when its fate is told: the
// state that counts is the same then, as an act is told of once.
func (s *script) next() api.Hint {
	first := s.left[0]
	hint, candidate := first.hint, state{}
	defer func() { s.note(hint.Kind, candidate) }()
	switch hint.Kind {
	case api.ActFormat:
		candidate = newState(s.config)
	case api.ActBatch:
		hint.Touches, candidate = s.states.counts.batch(s.config, first.ops)
	}
	return hint
}

// note takes the act off the script, and in the place of one that nobody told of: that is told FateNone by it.
func (s *script) note(kind int, candidate state) {
	s.left[0] = act{} // else its operations would be kept by what is left
	s.left = s.left[1:]
	s.asked = &asked{kind: kind, candidate: candidate}
}

func (s *script) tell(fate int) api.Errno {
	does := fates()
	if fate < 0 || fate >= len(does) || s.asked == nil {
		return api.ErrArg
	}
	does[fate](&s.states, *s.asked)
	s.asked = nil
	return api.OK
}

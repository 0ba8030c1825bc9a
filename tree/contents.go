package tree

import "casket/api"

// The operations on what a file has in it, of which the tree knows the size alone.

// effect is one on a file that is there.
func (s *state) effect(kind, number int) api.Effect {
	return api.Effect{Kind: kind, File: number, Gone: -1, Size: s.files.get(number).size}
}

func (s *state) read(r request) (api.Result, api.Effect) {
	at, e := s.findFile(r.names)
	if e != api.OK {
		return refused(e)
	}
	effect := s.effect(api.EffRead, at.number)
	effect.At = r.At
	effect.N = min(r.N, max(effect.Size-r.At, 0))
	return api.Result{N: effect.N}, effect
}

func (s *state) write(r request) (api.Result, api.Effect) {
	at, e := s.findFile(r.names)
	if e != api.OK {
		return refused(e)
	}
	// At may be so great that a sum with it would wrap round.
	if len(r.Data) > s.most-r.At {
		return refused(api.ErrBig)
	}
	if r.Data != "" {
		s.resize(at.number, max(s.files.get(at.number).size, r.At+len(r.Data)))
	}
	effect := s.effect(api.EffWrite, at.number)
	effect.At, effect.Data = r.At, r.Data
	return api.Result{N: len(r.Data)}, effect
}

func (s *state) cut(r request) (api.Result, api.Effect) {
	at, e := s.findFile(r.names)
	if e != api.OK {
		return refused(e)
	}
	if r.N > s.most {
		return refused(api.ErrBig)
	}
	s.resize(at.number, r.N)
	effect := s.effect(api.EffCut, at.number)
	effect.N = r.N
	return api.Result{}, effect
}

func (s *state) resize(number, size int) {
	f := s.files.get(number)
	f.size = size
	s.files.set(number, f)
}

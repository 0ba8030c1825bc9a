package exec

import (
	"slices"

	"casket/api"
)

// deed is what a kind of effect asks of the live files, and what it does to them where they have what it asks; what it
// answers is the result that stands in the plan, with what was read.
type deed struct {
	asks func(files, api.Effect) bool
	does func(files, api.Effect, api.Result) api.Result
}

func deeds() [api.EffOver + 1]deed {
	return [...]deed{
		api.EffMade:  {asks: files.mayBeMade, does: files.create},
		api.EffRead:  {asks: files.mayBeRead, does: files.read},
		api.EffWrite: {asks: files.mayBeWritten, does: files.write},
		api.EffCut:   {asks: files.mayBeCut, does: files.cut},
		api.EffGone:  {asks: files.mayBeGone, does: files.remove},
		api.EffOver:  {asks: files.mayBeReplaced, does: files.replace},
	}
}

// follow is the results of the steps, if each is one that may be done where it stands.
func (f files) follow(steps []api.Step) ([]api.Result, bool) {
	table, results := deeds(), make([]api.Result, len(steps))
	for i, s := range steps {
		results[i] = s.Result
		results[i].Names = slices.Clone(s.Result.Names)
		if s.Result.Code != api.OK || s.Effect.Kind == api.EffNone {
			continue
		}
		if s.Effect.Kind < api.EffMade || s.Effect.Kind > api.EffOver {
			return nil, false
		}
		d := table[s.Effect.Kind]
		if !d.asks(f, s.Effect) {
			return nil, false
		}
		results[i] = d.does(f, s.Effect, results[i])
	}
	return results, true
}

func (f files) mayBeMade(e api.Effect) bool { return e.File >= 0 && !f.isLive(e.File) }

func (f files) create(e api.Effect, r api.Result) api.Result {
	f[e.File] = contentOf("")
	return r
}

func (f files) mayBeRead(e api.Effect) bool {
	c, ok := f[e.File]
	if !ok || c.size() != e.Size || e.At < 0 || e.N < 0 {
		return false
	}
	// At may be so great that a sum with it would wrap round.
	return e.N == 0 || e.N <= e.Size-e.At
}

func (f files) read(e api.Effect, r api.Result) api.Result {
	r.Data = f[e.File].piece(e.At, e.N)
	return r
}

func (f files) mayBeWritten(e api.Effect) bool {
	c, ok := f[e.File]
	if !ok || e.At < 0 || e.At > api.MaxFile-len(e.Data) {
		return false
	}
	return e.Size == c.sizeWith(e.At, e.Data)
}

func (f files) write(e api.Effect, r api.Result) api.Result {
	f[e.File] = f[e.File].with(e.At, e.Data)
	return r
}

func (f files) mayBeCut(e api.Effect) bool {
	return f.isLive(e.File) && e.N >= 0 && e.N <= api.MaxFile && e.Size == e.N
}

func (f files) cut(e api.Effect, r api.Result) api.Result {
	f[e.File] = f[e.File].resized(e.N)
	return r
}

func (f files) mayBeGone(e api.Effect) bool { return f.isLive(e.File) }

func (f files) remove(e api.Effect, r api.Result) api.Result {
	delete(f, e.File)
	return r
}

func (f files) mayBeReplaced(e api.Effect) bool { return f.isLive(e.Gone) }

// replace leaves File alone: which path it is at is no content's business.
func (f files) replace(e api.Effect, r api.Result) api.Result {
	delete(f, e.Gone)
	return r
}

package archive

import "casket/api"

// wantUnused is ErrUsed, if something lies in the vault's root.
func (h hand) wantUnused() api.Errno {
	paths, e := h.listed([]string{root})
	if e != api.OK {
		return e
	}
	if len(paths) > 0 {
		return api.ErrUsed
	}
	return api.OK
}

// makeAll makes entries, and tells how many are whole.
func (h hand) makeAll(entries []api.Entry) (int, api.Errno) {
	done := 0
	e := h.do(opsOf(entries, making), func(results []api.Result) { done += len(results) })
	return wholeOf(entries, done), e
}

// wholeOf is how many entries are made by so many operations.
func wholeOf(entries []api.Entry, done int) int {
	for i, e := range entries {
		done -= len(making(e))
		if done < 0 {
			return i
		}
	}
	return len(entries)
}

func making(e api.Entry) []api.Op {
	if e.Kind == api.IsDir {
		return []api.Op{{Kind: api.OpMkdir, Path: e.Path}}
	}
	ops := []api.Op{{Kind: api.OpCreate, Path: e.Path}}
	if e.Data != "" {
		ops = append(ops, api.Op{Kind: api.OpWrite, Path: e.Path, Data: e.Data})
	}
	return ops
}

package archive

import (
	"iter"
	"slices"

	"casket/api"
	"casket/vault"
)

// hand does operations to a vault, so many a batch.
type hand struct {
	vault *vault.Vault
	slots int
}

func handOf(v *vault.Vault, slots int) (hand, api.Errno) {
	if v == nil {
		return hand{}, api.ErrNil
	}
	if slots < 1 || slots > api.MaxSlots {
		return hand{}, api.ErrArg
	}
	return hand{vault: v, slots: slots}, api.OK
}

// do hands each batch's results to take, up to the first that is not OK: that, or an error of a batch, ends it.
func (h hand) do(ops iter.Seq[api.Op], take func([]api.Result)) api.Errno {
	for batch := range batches(ops, h.slots) {
		results, e := h.vault.Batch(batch...)
		if e != api.OK {
			return e
		}
		good := goodOf(results)
		take(results[:good])
		if good < len(results) {
			return results[good].Code
		}
	}
	return api.OK
}

// results of all operations, if all are OK.
func (h hand) results(ops iter.Seq[api.Op]) ([]api.Result, api.Errno) {
	var all []api.Result
	e := h.do(ops, func(results []api.Result) { all = append(all, results...) })
	if e != api.OK {
		return nil, e
	}
	return all, api.OK
}

// goodOf is how many results stand ahead of the first that is not OK.
func goodOf(results []api.Result) int {
	i := slices.IndexFunc(results, func(r api.Result) bool { return r.Code != api.OK })
	if i < 0 {
		return len(results)
	}
	return i
}

// opsOf is the operations of each item of a list, one behind the other. They are told one by one: a text may ask for many
// more than a vault takes.
func opsOf[T any](list []T, of func(T) []api.Op) iter.Seq[api.Op] {
	return func(yield func(api.Op) bool) {
		for _, item := range list {
			for _, op := range of(item) {
				if !yield(op) {
					return
				}
			}
		}
	}
}

// batches cuts operations; the last batch is what is left.
func batches(ops iter.Seq[api.Op], slots int) iter.Seq[[]api.Op] {
	return func(yield func([]api.Op) bool) {
		var batch []api.Op
		for op := range ops {
			batch = append(batch, op)
			if len(batch) < slots {
				continue
			}
			if !yield(batch) {
				return
			}
			batch = nil
		}
		if len(batch) > 0 {
			yield(batch)
		}
	}
}

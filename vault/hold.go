package vault

import (
	"casket/api"
	"casket/commit"
	"casket/seal"
	"casket/tape"
	"casket/world"
)

// hold is what a vault holds from batch to batch.
type hold struct {
	code   api.Errno
	world  *world.World
	tape   *tape.Tape
	sealer seal.Sealer
	config api.Config
	state  api.State
}

// isMissing: a sealer that holds a nil pointer is not nil itself; that it asks for no coins tells it, and so does a panic of
// one that is none of layer 8's.
func isMissing(w *world.World, t *tape.Tape, s seal.Sealer) (missing bool) {
	defer func() {
		if recover() != nil {
			missing = true
		}
	}()
	return w == nil || t == nil || s == nil || s.Coins(0) == 0
}

func (h *hold) batch(ops []api.Op) ([]api.Result, api.Errno) {
	next, results, e := commit.Batch(h.world, h.tape, h.sealer, h.config, h.state, ops)
	switch e {
	case api.OK:
		h.state = next
	case api.ErrDown:
		// Whether the batch counts, the next Recover settles: what is held says nothing of it any more.
		h.end(api.ErrDead)
	case api.ErrTampered:
		h.end(api.ErrTampered)
	}
	return results, e
}

// end lets go all but the code: a vault that takes no further batch needs nothing else.
func (h *hold) end(code api.Errno) { *h = hold{code: code} }

package commit

import "casket/api"

// giveUp leaves the call from wherever it is; its face answers the error. So no part goes on behind what was refused, and no
// call of the world is made behind the one that was.
func giveUp(e api.Errno) { panic(e) }

// done gives up where something was refused.
func done(e api.Errno) {
	if e != api.OK {
		giveUp(e)
	}
}

// must is what was answered; it gives up where that was an error.
func must[T any](answer T, e api.Errno) T {
	done(e)
	return answer
}

// reasonOf is the error with which a call was given up. Nothing below throws anything else, but for a sealer that is none
// of layer 8's: no call panics, and to it such a one is as one that is not there.
func reasonOf(thrown any) api.Errno {
	if e, ok := thrown.(api.Errno); ok {
		return e
	}
	return api.ErrNil
}

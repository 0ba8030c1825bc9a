package tree

import (
	"casket/api"
	"casket/path"
)

// request is an operation whose texts were read.
type request struct {
	api.Op
	names []string // of Path
	to    []string // of To
}

// operation is how a kind is done, and which fields beside Path it looks at as numbers and texts that may be wrong.
type operation struct {
	do        func(*state, request) (api.Result, api.Effect)
	to, at, n bool
}

func operations() [api.OpStat + 1]operation {
	return [...]operation{
		api.OpMkdir:  {do: (*state).mkdir},
		api.OpCreate: {do: (*state).create},
		api.OpRead:   {do: (*state).read, at: true, n: true},
		api.OpWrite:  {do: (*state).write, at: true},
		api.OpCut:    {do: (*state).cut, n: true},
		api.OpRename: {do: (*state).rename, to: true},
		api.OpRemove: {do: (*state).remove},
		api.OpRmdir:  {do: (*state).rmdir},
		api.OpList:   {do: (*state).list},
		api.OpStat:   {do: (*state).stat},
	}
}

// asked finds what is wrong with an operation whatever the tree is.
func asked(op api.Op) (operation, request, api.Errno) {
	if op.Kind < api.OpMkdir || op.Kind > api.OpStat {
		return operation{}, request{}, api.ErrOp
	}
	o, r := operations()[op.Kind], request{Op: op}
	var e api.Errno
	if r.names, e = path.Parse(op.Path); e != api.OK {
		return operation{}, request{}, e
	}
	if o.to {
		if r.to, e = path.Parse(op.To); e != api.OK {
			return operation{}, request{}, e
		}
	}
	if o.at && op.At < 0 || o.n && op.N < 0 {
		return operation{}, request{}, api.ErrArg
	}
	return o, r, api.OK
}

func noEffect() api.Effect { return api.Effect{Kind: api.EffNone, File: -1, Gone: -1} }

func refused(e api.Errno) (api.Result, api.Effect) { return api.Result{Code: e}, noEffect() }

// quiet is what an operation answers that asks nothing of a file's content.
func quiet(r api.Result) (api.Result, api.Effect) { return r, noEffect() }

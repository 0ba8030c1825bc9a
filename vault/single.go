package vault

import "casket/api"

// single does a batch of one operation. An error of the batch is told in the place of the operation's own, so that whoever
// calls has one code to look at.
func (v *Vault) single(operation func() api.Op) (api.Result, api.Errno) {
	results, e := v.Batch(operation())
	if e != api.OK {
		return api.Result{}, e
	}
	return results[0], results[0].Code
}

// Mkdir makes a directory; a batch of one, as all that follow.
func (v *Vault) Mkdir(path string) api.Errno {
	_, e := v.single(func() api.Op { return api.Op{Kind: api.OpMkdir, Path: path} })
	return e
}

// Create makes an empty file.
func (v *Vault) Create(path string) api.Errno {
	_, e := v.single(func() api.Op { return api.Op{Kind: api.OpCreate, Path: path} })
	return e
}

// ReadAt reads n bytes from a place on.
func (v *Vault) ReadAt(path string, at, n int) (string, api.Errno) {
	r, e := v.single(func() api.Op { return api.Op{Kind: api.OpRead, Path: path, At: at, N: n} })
	return r.Data, e
}

// WriteAt writes bytes from a place on.
func (v *Vault) WriteAt(path string, at int, data string) (int, api.Errno) {
	r, e := v.single(func() api.Op { return api.Op{Kind: api.OpWrite, Path: path, At: at, Data: data} })
	return r.N, e
}

// Truncate gives a file a size.
func (v *Vault) Truncate(path string, size int) api.Errno {
	_, e := v.single(func() api.Op { return api.Op{Kind: api.OpCut, Path: path, N: size} })
	return e
}

// Rename moves a file or a directory.
func (v *Vault) Rename(from, to string) api.Errno {
	_, e := v.single(func() api.Op { return api.Op{Kind: api.OpRename, Path: from, To: to} })
	return e
}

// Remove takes a file away.
func (v *Vault) Remove(path string) api.Errno {
	_, e := v.single(func() api.Op { return api.Op{Kind: api.OpRemove, Path: path} })
	return e
}

// Rmdir takes an empty directory away.
func (v *Vault) Rmdir(path string) api.Errno {
	_, e := v.single(func() api.Op { return api.Op{Kind: api.OpRmdir, Path: path} })
	return e
}

// Readdir is the names in a directory, rising.
func (v *Vault) Readdir(path string) ([]string, api.Errno) {
	r, e := v.single(func() api.Op { return api.Op{Kind: api.OpList, Path: path} })
	return r.Names, e
}

// Stat is the kind and size.
func (v *Vault) Stat(path string) (int, int, api.Errno) {
	r, e := v.single(func() api.Op { return api.Op{Kind: api.OpStat, Path: path} })
	return r.Kind, r.Size, e
}

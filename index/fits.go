package index

import (
	"casket/api"
	"casket/path"
)

func treeFits(c api.Config, t api.TreeState) bool {
	if t.Files != c.Files || t.Dirs != c.Dirs {
		return false
	}
	last := 0
	for _, n := range t.Nodes {
		if !nodeFits(c, n) || placeOf(c, n) <= last {
			return false
		}
		last = placeOf(c, n)
	}
	return true
}

// placeOf is a number by which nodes stand in their order: directories from 1 on, and all files behind them.
func placeOf(c api.Config, n api.Node) int {
	if n.Kind == api.IsDir {
		return n.Number
	}
	return c.Dirs + 1 + n.Number
}

func nodeFits(c api.Config, n api.Node) bool {
	return numbersFit(c, n) && isFrom(n.Parent, 0, c.Dirs) && path.Name(n.Name) == api.OK
}

func numbersFit(c api.Config, n api.Node) bool {
	switch n.Kind {
	case api.IsDir:
		return isFrom(n.Number, 1, c.Dirs) && n.Size == 0
	case api.IsFile:
		return isFrom(n.Number, 0, c.Files-1) && isFrom(n.Size, 0, c.MaxFile)
	}
	return false
}

func poolFits(c api.Config, p api.PoolState) bool {
	if len(p.Objects) != rowsOf(c) || len(p.Queue) > rowsOf(c) {
		return false
	}
	for _, o := range p.Objects {
		if !isNamed(o.Name, o.Tag) || !isFrom(o.Bucket, 0, api.MaxBlob) || !isFrom(o.Owner, -1, c.Files-1) {
			return false
		}
	}
	for _, i := range p.Queue {
		if !isFrom(i, 0, rowsOf(c)-1) {
			return false
		}
	}
	return true
}

func isNamed(name, tag string) bool { return len(name) == wordSize && len(tag) == wordSize }

func areBodies(c api.Config, pages []string) bool {
	if len(pages) != pageCount(c) {
		return false
	}
	for _, s := range pages {
		if len(s) != bodySize(c) {
			return false
		}
	}
	return true
}

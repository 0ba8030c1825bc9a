package archive

import (
	"slices"
	"strings"

	"casket/api"
	"casket/path"
)

const (
	root       = "/"
	maxEntries = 999999
)

// below is the path of what lies in a directory under a name.
func below(directory, name string) string {
	if directory == root {
		return root + name
	}
	return directory + "/" + name
}

// isArchive tells whether entries stand as an archive's do, each by itself and among the others.
func isArchive(entries []api.Entry) bool {
	if len(entries) > maxEntries {
		return false
	}
	for i, e := range entries {
		ahead := entries[:i]
		if !isEntry(e) || !isBehind(ahead, e.Path) || !liesIn(ahead, e.Path) {
			return false
		}
	}
	return true
}

func isEntry(e api.Entry) bool {
	names, code := path.Parse(e.Path)
	if code != api.OK || len(names) == 0 {
		return false
	}
	switch e.Kind {
	case api.IsDir:
		return e.Data == ""
	case api.IsFile:
		return len(e.Data) <= api.MaxFile
	}
	return false
}

func isBehind(ahead []api.Entry, text string) bool {
	return len(ahead) == 0 || ahead[len(ahead)-1].Path < text
}

// liesIn tells whether a path lies in the root, or in a directory that stands among the entries ahead of it, which rise.
func liesIn(ahead []api.Entry, text string) bool {
	directory := text[:strings.LastIndex(text, "/")]
	if directory == "" {
		return true
	}
	i, isThere := slices.BinarySearchFunc(ahead, directory, func(e api.Entry, wanted string) int {
		return strings.Compare(e.Path, wanted)
	})
	return isThere && ahead[i].Kind == api.IsDir
}

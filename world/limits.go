package world

import "casket/api"

const tagSize = 16

func isName(name string) bool { return len(name) >= 1 && len(name) <= api.MaxLabel }

func isBlob(blob string) bool { return len(blob) <= api.MaxBlob }

func isTag(tag string) bool { return len(tag) == tagSize }

func isTagOrNone(tag string) bool { return tag == "" || isTag(tag) }

func nameFault(name string) api.Errno {
	if !isName(name) {
		return api.ErrArg
	}
	return api.OK
}

func blobFault(blob string) api.Errno {
	if !isBlob(blob) {
		return api.ErrBig
	}
	return api.OK
}

func tagFault(tag string) api.Errno {
	if !isTag(tag) {
		return api.ErrArg
	}
	return api.OK
}

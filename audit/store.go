package audit

import "casket/api"

// store finds the objects that were handed in by their names. It is only read, so that many may ask it at once.
type store struct {
	blobs []api.Blob
	place map[string]int
}

func storeOf(blobs []api.Blob) store {
	s := store{blobs: blobs, place: make(map[string]int, len(blobs))}
	for i, b := range blobs {
		s.place[b.Name] = i
	}
	return s
}

func (s store) get(name string) (string, bool) {
	i, found := s.place[name]
	if !found {
		return "", false
	}
	return s.blobs[i].Blob, true
}

// others is how many objects have none of these names.
func (s store) others(names []string) int {
	own := map[string]struct{}{}
	for _, name := range names {
		own[name] = struct{}{}
	}
	count := 0
	for _, b := range s.blobs {
		if _, is := own[b.Name]; !is {
			count++
		}
	}
	return count
}

package exec

import "casket/api"

const nobody = -1 // the file of a dummy

// files is the live ones: the content of each, by its number, which is never below 0.
type files map[int]content

func (f files) isLive(number int) bool {
	_, ok := f[number]
	return ok
}

// filesOf is the files that are live ahead of the steps, if slots and contents fit each other.
func filesOf(slots []api.Slot, contents []string) (files, bool) {
	if len(contents) != len(slots) {
		return nil, false
	}
	live := files{}
	for i, s := range slots {
		if s.Was == nobody && contents[i] == "" {
			continue
		}
		if s.Was < 0 || live.isLive(s.Was) {
			return nil, false
		}
		live[s.Was] = contentOf(contents[i])
	}
	return live, true
}

// intoSlots is the content of each slot behind the steps, if the live files are just the slots'. Each is taken out, so that
// no second slot finds it, and what is left over is no slot's.
func (f files) intoSlots(slots []api.Slot) ([]string, bool) {
	contents := make([]string, len(slots))
	for i, s := range slots {
		if s.File == nobody {
			continue
		}
		c, ok := f[s.File]
		if !ok {
			return nil, false
		}
		contents[i] = c.text()
		delete(f, s.File)
	}
	return contents, len(f) == 0
}

package path

import "slices"

// each is the list of what f makes of each of a list.
func each[From, To any](list []From, f func(From) To) []To {
	out := make([]To, 0, len(list))
	for _, item := range list {
		out = append(out, f(item))
	}
	return out
}

// renaming is the function that a table of names, of two equally long lists, stands for. It looks through the list each time:
// a path has too few names for an order by names to pay.
func renaming(from, to []string) func(string) string {
	return func(name string) string {
		if i := slices.Index(from, name); i >= 0 {
			return to[i]
		}
		return name
	}
}

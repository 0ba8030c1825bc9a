package commit

// set is some texts, of names or tags.
type set map[string]struct{}

func setOf(texts []string) set {
	s := make(set, len(texts))
	for _, text := range texts {
		s.add(text)
	}
	return s
}

func (s set) add(text string) { s[text] = struct{}{} }

func (s set) has(text string) bool {
	_, there := s[text]
	return there
}

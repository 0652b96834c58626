package check

// scope is the names that a block or a row of parameters declares, with the nodes that do, and the scope about it.
type scope struct {
	*scope
	names map[string]int
}

func within(about *scope) *scope {
	return &scope{about, map[string]int{}}
}

// has tells whether a name is in scope.
func (s *scope) has(name string) bool {
	for ; s != nil; s = s.scope {
		if _, is := s.names[name]; is {
			return true
		}
	}
	return false
}

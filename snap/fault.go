package snap

// fault is what is thrown where something is none of what it should be.
type fault struct{}

// want throws, unless something is so.
func want(so bool) {
	if !so {
		panic(fault{})
	}
}

// done does something, and tells whether it came to its end without a fault.
func done(do func()) (is bool) {
	defer func() {
		switch thrown := recover().(type) {
		case nil, fault:
		default:
			panic(thrown)
		}
	}()
	do()
	return true
}

// within tells whether n is one of so many, counted from 0.
func within(n, count int) bool {
	return n >= 0 && n < count
}

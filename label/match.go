package label

// Match: does a text match a pattern?
func Match(s, pattern string) bool {
	at := 0             // the place in the pattern that the next byte of s is held against
	star, from := -1, 0 // the last * that was met, and the place in s behind what it stands for
	for i := 0; i < len(s); {
		switch {
		case at < len(pattern) && pattern[at] == '*':
			star, from = at, i
			at++
		case at < len(pattern) && (pattern[at] == '?' || pattern[at] == s[i]):
			at++
			i++
		case star >= 0:
			// Only the last * need ever stand for more: those ahead of it have the earliest match already.
			from++
			at, i = star+1, from
		default:
			return false
		}
	}
	return onlyStars(pattern[at:])
}

func onlyStars(pattern string) bool {
	for i := range len(pattern) {
		if pattern[i] != '*' {
			return false
		}
	}
	return true
}

package modlog

// frames are those of a logic's models: which worlds see each other, as far as what is true at them allows it.
type frames struct {
	sees   func(u, v world) bool
	itself bool // each world sees itself
	some   bool // each world sees some
}

// framesOf tells the frames of a logic, if there is one with this number. A world may see those that show nothing but what it wants. Each way of seeing is the widest that the logic allows, as the more a world sees, the more of what it wants is shown.
func framesOf(logic int) (frames, bool) {
	next := func(u, v world) bool { return v.shows.IsWithin(u.wants) }
	// What a world sees by way of another one it sees itself: it wants all that the other wants.
	beyond := func(u, v world) bool { return next(u, v) && v.wants.IsWithin(u.wants) }
	// Where each way on has an end, there is a last world on it that shows what is wanted, and that one wants it no more.
	onwards := func(u, v world) bool { return beyond(u, v) && u.wants != v.wants }
	switch logic {
	case 1:
		return frames{sees: next}, true
	case 2:
		return frames{sees: next, some: true}, true
	case 3:
		return frames{sees: next, itself: true}, true
	case 4:
		return frames{sees: beyond}, true
	case 5:
		return frames{sees: beyond, itself: true}, true
	case 6:
		return frames{sees: bothWays(beyond), itself: true}, true
	case 7:
		return frames{sees: bothWays(next), itself: true}, true
	case 8:
		return frames{sees: onwards}, true
	}
	return frames{}, false
}

func bothWays(sees func(u, v world) bool) func(u, v world) bool {
	return func(u, v world) bool { return sees(u, v) && sees(v, u) }
}

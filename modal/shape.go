package modal

// shape asks each of the chapter's six, in their order.
func (r frame) shape() [6]bool {
	seesItself := func(w int) bool { return r[w].Has(w) }
	seesNotItself := func(w int) bool { return !r[w].Has(w) }
	seesSome := func(w int) bool { return r[w] != 0 }
	seesAllOf := func(w, seen int) bool { return r[seen].IsWithin(r[w]) }
	isSeenBy := func(w, seen int) bool { return r[seen].Has(w) }
	sharesAllWith := func(w, seen int) bool { return r[w].IsWithin(r[seen]) }
	return [6]bool{
		r.ofAll(seesItself),
		r.ofAllSeen(seesAllOf),
		r.ofAllSeen(isSeenBy),
		r.ofAllSeen(sharesAllWith),
		r.ofAll(seesSome),
		r.ofAllSeen(seesAllOf) && r.ofAll(seesNotItself),
	}
}

// ofAll: is it so of each world?
func (r frame) ofAll(is func(w int) bool) bool {
	for w := range r {
		if !is(w) {
			return false
		}
	}
	return true
}

// ofAllSeen: is it so of each world with each that it sees?
func (r frame) ofAllSeen(is func(w, seen int) bool) bool {
	return r.ofAll(func(w int) bool {
		for _, seen := range r[w].Members(len(r)) {
			if !is(w, seen) {
				return false
			}
		}
		return true
	})
}

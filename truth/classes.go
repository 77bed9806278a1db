package truth

import "sequent/api"

// tablesFault tells why l is no list of functions. Both faults of a table go ahead of those of the next one.
func tablesFault(l []api.Table) api.Fault {
	if len(l) > mostTables {
		return api.Fault{Code: api.ErrMany}
	}
	for at, t := range l {
		if t.N < 0 || t.N > mostArguments {
			return api.Fault{Code: api.ErrRange, At: at}
		}
		if len(t.Bits) != 1<<t.N {
			return api.Fault{Code: api.ErrSize, At: at}
		}
	}
	return api.Fault{}
}

// classes are Post's, in the chapter's order: what each of them asks of a table.
func classes() [5]func(api.Table) bool {
	return [5]func(api.Table) bool{
		func(t api.Table) bool { return !t.Bits[0] },
		func(t api.Table) bool { return t.Bits[len(t.Bits)-1] },
		isSelfDual,
		isRising,
		isSum,
	}
}

// isSelfDual: all values turned make the row that is as far from the last as this one is from the first.
func isSelfDual(t api.Table) bool {
	last := len(t.Bits) - 1
	for row, bit := range t.Bits {
		if bit == t.Bits[last-row] {
			return false
		}
	}
	return true
}

// isRising turns one value at a time: what holds of each such step holds of many.
func isRising(t api.Table) bool {
	for row, bit := range t.Bits {
		for i := range t.N {
			if bit && !t.Bits[row|1<<i] {
				return false
			}
		}
	}
	return true
}

// isSum: the row of nothing, and those of one value alone, leave one sum that can be meant.
func isSum(t api.Table) bool {
	for row, bit := range t.Bits {
		sum := t.Bits[0]
		for i := range t.N {
			isCounted := t.Bits[1<<i] != t.Bits[0]
			if isCounted && digit(row, i) {
				sum = !sum
			}
		}
		if sum != bit {
			return false
		}
	}
	return true
}

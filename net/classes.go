package net

// classes parts numbers: at first each is alone, and those that are united come into one class.
type classes struct {
	above []int // leads from each number to the one that its class is told by
	count int
}

func newClasses(n int) *classes {
	c := &classes{count: n}
	for i := range n {
		c.above = append(c.above, i)
	}
	return c
}

// of is the number that the class of this one is told by.
func (c *classes) of(number int) int {
	for c.above[number] != number {
		// The way is halved, so that it does not become long.
		c.above[number] = c.above[c.above[number]]
		number = c.above[number]
	}
	return number
}

func (c *classes) isOne(a, b int) bool { return c.of(a) == c.of(b) }

// unite tells whether they were in two classes.
func (c *classes) unite(a, b int) bool {
	if c.isOne(a, b) {
		return false
	}
	c.above[c.of(a)] = c.of(b)
	c.count--
	return true
}

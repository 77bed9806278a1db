package net

// isCorrect does not go through all ways to join each LPar to one of its Kids, which may be 2^99. They all have the same number of joints; so each is a tree just if that is one less than the nodes, and each hangs together.
func (n network) isCorrect() bool {
	return n.joints() == len(n.nodes)-1 && n.isWhole()
}

// joints counts the links and what each way joins: LPar to one, LTensor to two.
func (n network) joints() int {
	count := len(n.mates) / 2
	for number := range n.nodes {
		switch {
		case n.isPar(number):
			count++
		case n.isTensor(number):
			count += 2
		}
	}
	return count
}

// isWhole tells whether all nodes come into one class, where links and LTensor unite, and LPar comes to its Kids once they are in one.
//
// If they do, all hang together in each way: each class does from its first node on, as LPar is joined to one of two Kids that hang together. And they do in each correct net: it has a proof, whose steps bring all nodes of their nets into one class, one step after the other.
func (n network) isWhole() bool {
	c := newClasses(len(n.nodes))
	n.uniteLinks(c)
	for number, node := range n.nodes {
		if n.isTensor(number) {
			c.unite(number, node.kids[0])
			c.unite(number, node.kids[1])
		}
	}
	for isMore := true; isMore; {
		isMore = false
		for number, node := range n.nodes {
			if n.isPar(number) && c.isOne(node.kids[0], node.kids[1]) && c.unite(number, node.kids[0]) {
				isMore = true
			}
		}
	}
	return c.count == 1
}

func (n network) uniteLinks(c *classes) {
	for _, link := range n.links() {
		c.unite(n.leaves[link[0]], n.leaves[link[1]])
	}
}

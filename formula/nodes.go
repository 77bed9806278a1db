package formula

import (
	"strings"

	"sequent/api"
)

// eachNode visits f's nodes, each ahead of its Kids.
func eachNode(f api.Formula, visit func(api.Formula)) {
	visit(f)
	for _, k := range f.Kids {
		eachNode(k, visit)
	}
}

func size(f api.Formula) int {
	n := 0
	eachNode(f, func(api.Formula) { n++ })
	return n
}

// sizeWith is the size of f with a formula of so many nodes wherever f has the name.
func sizeWith(f api.Formula, name string, nodes int) int {
	n := 0
	eachNode(f, func(x api.Formula) {
		if hasName(x, name) {
			n += nodes
		} else {
			n++
		}
	})
	return n
}

func hasName(f api.Formula, name string) bool {
	return f.Kind == api.FVar && f.Name == name
}

func copyOf(f api.Formula) api.Formula {
	return rebuilt(f, copyOf)
}

func replaced(f api.Formula, name string, g api.Formula) api.Formula {
	if hasName(f, name) {
		return copyOf(g)
	}
	return rebuilt(f, func(k api.Formula) api.Formula { return replaced(k, name, g) })
}

// rebuilt makes f's first node anew, as an answer shares no memory with what was handed in.
func rebuilt(f api.Formula, kid func(api.Formula) api.Formula) api.Formula {
	n := api.Formula{Kind: f.Kind, Name: strings.Clone(f.Name)}
	for _, k := range f.Kids {
		n.Kids = append(n.Kids, kid(k))
	}
	return n
}

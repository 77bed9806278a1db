package modlog

import (
	"strings"

	"sequent/api"
)

func boxed(f api.Formula) api.Formula {
	g := api.Formula{Kind: f.Kind, Name: strings.Clone(f.Name)}
	for _, k := range f.Kids {
		g.Kids = append(g.Kids, boxed(k))
	}
	switch f.Kind {
	case api.FVar, api.FNot, api.FThen:
		return api.Formula{Kind: api.FBox, Kids: []api.Formula{g}}
	}
	return g
}

package syntax

import "theodolite/api"

// deep tells whether an expression or a statement of a program is deeper than it may be.
func deep(x api.Prog) bool {
	for _, f := range x.Funcs {
		if deepList(f.Body, api.MaxDepth) {
			return true
		}
	}
	return false
}

// deepList tells whether one of some statements is deeper than so much, or an expression of them than it may be. It looks no deeper than that.
func deepList(l []api.Stmt, most int) bool {
	for _, s := range l {
		if most == 0 || deepKids(s.Kids, api.MaxDepth) || deepList(s.Body, most-1) || deepList(s.Else, most-1) {
			return true
		}
	}
	return false
}

// deepKids tells whether one of some expressions is deeper than so much.
func deepKids(l []api.Exp, most int) bool {
	for _, x := range l {
		if most == 0 || deepKids(x.Kids, most-1) {
			return true
		}
	}
	return false
}

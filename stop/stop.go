// Package stop ends a walk through nodes at the first fault, from however deep: nothing on the way back has to pass the fault on.
package stop

import "sequent/api"

// halt is what a walk panics with: a value of its own, so that no other panic passes for a fault.
type halt struct {
	fault api.Fault
}

// At ends the work that Caught does with a fault.
func At(code, at int) {
	panic(halt{api.Fault{Code: code, At: at}})
}

// Caught does the work and answers the fault that ended it.
func Caught(work func()) (e api.Fault) {
	defer func() {
		switch v := recover().(type) {
		case nil:
		case halt:
			e = v.fault
		default:
			// A mistake of the program's own must not pass for an answer.
			panic(v)
		}
	}()
	work()
	return api.Fault{}
}

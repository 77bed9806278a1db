package formula

import "sequent/api"

// stop is what a reading or a look at nodes panics with at a fault: nothing on the way back has to pass the fault on.
type stop struct {
	fault api.Fault
}

func stopAt(code, at int) {
	panic(stop{api.Fault{Code: code, At: at}})
}

// caught does the work and answers the fault that stopped it.
func caught(work func()) (e api.Fault) {
	defer func() {
		switch v := recover().(type) {
		case nil:
		case stop:
			e = v.fault
		default:
			// A mistake of the program's own must not pass for an answer.
			panic(v)
		}
	}()
	work()
	return api.Fault{}
}

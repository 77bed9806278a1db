package stop_test

import (
	"testing"

	"sequent/api"
	"sequent/stop"
)

func TestFaultsAreAnswered(t *testing.T) {
	var deep func(n int)
	deep = func(n int) {
		if n == 0 {
			stop.At(api.ErrName, 7)
		}
		deep(n - 1)
		t.Error("the work goes on behind a fault")
	}
	if e := stop.Caught(func() { deep(100) }); e != (api.Fault{Code: api.ErrName, At: 7}) {
		t.Errorf("%v", e)
	}
}

func TestNoFault(t *testing.T) {
	done := false
	if e := stop.Caught(func() { done = true }); e != (api.Fault{}) || !done {
		t.Errorf("%v, %v", e, done)
	}
}

// TestOwnMistakesStayPanics: they must not be told as faults of what was handed in.
func TestOwnMistakesStayPanics(t *testing.T) {
	defer func() {
		if v := recover(); v != "mistake" {
			t.Errorf("%v", v)
		}
	}()
	e := stop.Caught(func() { panic("mistake") })
	t.Errorf("%v is told", e)
}

func TestOneWithinAnother(t *testing.T) {
	var inner api.Fault
	outer := stop.Caught(func() {
		inner = stop.Caught(func() { stop.At(api.ErrKind, 1) })
		stop.At(api.ErrSize, 2)
	})
	if inner != (api.Fault{Code: api.ErrKind, At: 1}) || outer != (api.Fault{Code: api.ErrSize, At: 2}) {
		t.Errorf("%v, %v", inner, outer)
	}
}

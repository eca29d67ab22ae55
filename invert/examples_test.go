package invert_test

import (
	"testing"

	"phasor/api"
)

// The chapter's examples, as they stand there.

func TestExampleOne(t *testing.T) {
	inverse.want(t, "three gates", of(2, 0, do(api.GateS, 0), do(api.GateCX, 0, 1), do(api.GateV, 1)), of(2, 0, do(api.GateVdg, 1), do(api.GateCX, 0, 1), do(api.GateSdg, 0)))
	inverse.refuses(t, "a measurement", of(1, 1, measure(0, 0)), api.ErrInverse)
	y, x, z := do(api.GateY, 0), do(api.GateX, 0), do(api.GateZ, 0)
	conj.want(t, "y", of(1, 0, y), of(1, 0, y, x, z, x, z))
}

func TestExampleTwo(t *testing.T) {
	x, s, sdg := do(api.GateX, 0), do(api.GateS, 0), do(api.GateSdg, 0)
	power(3).want(t, "x", of(1, 0, x), of(1, 0, x, x, x))
	power(-2).want(t, "s", of(1, 0, s), of(1, 0, sdg, sdg))
	power(0).want(t, "x and s", of(1, 0, x, s), of(1, 0))
	mirror.want(t, "s", of(1, 0, s), of(1, 0, s, sdg))
}

func TestExampleThree(t *testing.T) {
	control.want(t, "x and swap", of(2, 0, do(api.GateX, 0), do(api.GateSwap, 0, 1)), of(3, 0, do(api.GateCX, 2, 0), do(api.GateCSw, 2, 0, 1)))
	control.refuses(t, "s", of(2, 0, do(api.GateS, 0)), api.ErrInverse)
}

package layers

import (
	"slices"

	"phasor/api"
)

// wireCount is how many wires there may be: the qubits, and behind them the bits.
const wireCount = api.MaxWires + api.MaxBits

// always is If of what has no condition.
const always = -1

// wires answers the wires of an operation that may be.
func wires(op *api.Op) []int {
	switch {
	case op.Kind == api.OpMeasure:
		return append(slices.Clone(op.Qubits), api.MaxWires+op.Bit)
	case op.If != always:
		return append(slices.Clone(op.Qubits), api.MaxWires+op.If)
	}
	return op.Qubits
}

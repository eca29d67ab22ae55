package run

import (
	"phasor/api"
	"phasor/apply"
	"phasor/odds"
)

const (
	always = -1 // If of what has no condition
	noBit  = -1 // the Bit of an outcome that no bit was set to
)

// course is what a run has come to. A state is never changed in its place: another takes its place.
type course struct {
	at    int // how many operations have been done
	state []complex128
	bits  [api.MaxBits]int
	log   []api.Outcome
}

// deed is what is done for a kind of operation, and whether that needs an outcome. The operations are a checked circuit's, so that no layer below refuses them.
type deed struct {
	measures bool
	do       func(op api.Op, o api.Outcome)
}

// deeds answers what is done for each kind of operation (P12.2).
func (c *course) deeds() map[api.OpKind]deed {
	return map[api.OpKind]deed{
		api.OpGate:    {do: c.gate},
		api.OpMeasure: {do: c.measure, measures: true},
		api.OpReset:   {do: c.reset, measures: true},
		api.OpBarrier: {do: c.pass},
	}
}

func (c *course) gate(op api.Op, _ api.Outcome) {
	if op.If == always || c.bits[op.If] == op.When {
		c.state, _ = apply.Gate(c.state, op.Gate, op.Qubits)
	}
}

func (c *course) measure(op api.Op, o api.Outcome) {
	c.state, _ = odds.Project(c.state, o.Qubit, o.Value)
	c.bits[op.Bit] = o.Value
	o.Bit = op.Bit
	c.log = append(c.log, o)
}

func (c *course) reset(_ api.Op, o api.Outcome) {
	c.state, _ = odds.Settle(c.state, o.Qubit, o.Value)
	o.Bit = noBit
	c.log = append(c.log, o)
}

func (c *course) pass(api.Op, api.Outcome) {}

// weigh answers the outcome of a measurement or a reset that comes next, as far as it is known ahead of its value.
func (c *course) weigh(op api.Op) api.Outcome {
	qubit := op.Qubits[0]
	zero, one, _ := odds.Weigh(c.state, qubit)
	return api.Outcome{Op: c.at, Qubit: qubit, Zero: zero, One: one}
}

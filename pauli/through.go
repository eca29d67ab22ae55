package pauli

import (
	"phasor/api"
	"phasor/gate"
)

// images has at the number of each Clifford gate, for each of its qubits, what X, Y and Z there become: strings of the gate's own qubits.
var images = [...][2][3]string{
	api.GateI:    {{"+X", "+Y", "+Z"}},
	api.GateX:    {{"+X", "-Y", "-Z"}},
	api.GateY:    {{"-X", "+Y", "-Z"}},
	api.GateZ:    {{"-X", "-Y", "+Z"}},
	api.GateS:    {{"+Y", "-X", "+Z"}},
	api.GateSdg:  {{"-Y", "+X", "+Z"}},
	api.GateV:    {{"+X", "+Z", "-Y"}},
	api.GateVdg:  {{"+X", "-Z", "+Y"}},
	api.GateW:    {{"-Z", "+Y", "+X"}},
	api.GateWdg:  {{"+Z", "+Y", "-X"}},
	api.GateCX:   {{"+XX", "+YX", "+ZI"}, {"+IX", "+ZY", "+ZZ"}},
	api.GateCY:   {{"+XY", "+YY", "+ZI"}, {"+ZX", "+IY", "+ZZ"}},
	api.GateCZ:   {{"+XZ", "+YZ", "+ZI"}, {"+ZX", "+ZY", "+IZ"}},
	api.GateSwap: {{"+IX", "+IY", "+IZ"}, {"+XI", "+YI", "+ZI"}},
	api.GateISw:  {{"+ZY", "-ZX", "+IZ"}, {"+YZ", "-XZ", "+ZI"}},
	api.GateISwd: {{"-ZY", "+ZX", "+IZ"}, {"-YZ", "+XZ", "+ZI"}},
	api.GateHH:   {{"+ZI", "-YI", "+XI"}, {"+IZ", "-IY", "+IX"}},
}

// Through carries a string through a gate (P13.4).
//
// A string is the product of its letters: those at the gate's qubits are taken out of it, and their images multiplied in again.
func Through(p api.Pauli, kind api.GateKind, qubits []int) (api.Pauli, api.Errno) {
	if Check(p) != api.OK || !gate.Clifford(kind) || gate.Check(kind, qubits, p.N) != api.OK {
		return api.Pauli{}, api.ErrPauli
	}
	behind := p
	for _, q := range qubits {
		behind.X &^= 1 << q
		behind.Z &^= 1 << q
	}
	for t, q := range qubits {
		if letter := Letter(p, q); letter != 'I' {
			behind, _ = Mul(behind, laid(image(kind, t, letter), qubits, p.N))
		}
	}
	return behind, api.OK
}

// image answers what a letter that is not I becomes at the gate's qubit number t.
func image(kind api.GateKind, t int, letter byte) api.Pauli {
	p, _ := Parse(images[kind][t][letter-'X'])
	return p
}

// laid answers a string among n qubits: what is at its qubit number t comes to qubits[t].
func laid(p api.Pauli, qubits []int, n int) api.Pauli {
	wide := api.Pauli{N: n, Phase: p.Phase}
	for t, q := range qubits {
		wide.X |= (p.X >> t & 1) << q
		wide.Z |= (p.Z >> t & 1) << q
	}
	return wide
}

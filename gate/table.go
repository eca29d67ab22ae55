package gate

import "phasor/api"

// trait is what is said of a kind by a yes or a no.
type trait int

const (
	halving trait = 1 << iota
	clifford
	diagonal
)

// row is what is said of a kind. What it does to basis states stands at its core: a gate with more qubits than its core does what the core does to the last ones where all ahead of these are 1.
type row struct {
	name             string
	qubits, controls int
	traits           trait
	inverse, core    api.GateKind
}

// table has each kind at its number; what is left between them is the row of no kind.
var table = [...]row{
	api.GateI:    {"id", 1, 0, clifford | diagonal, api.GateI, api.GateI},
	api.GateX:    {"x", 1, 0, clifford, api.GateX, api.GateX},
	api.GateY:    {"y", 1, 0, clifford, api.GateY, api.GateY},
	api.GateZ:    {"z", 1, 0, clifford | diagonal, api.GateZ, api.GateZ},
	api.GateS:    {"s", 1, 0, clifford | diagonal, api.GateSdg, api.GateS},
	api.GateSdg:  {"sdg", 1, 0, clifford | diagonal, api.GateS, api.GateSdg},
	api.GateV:    {"sx", 1, 0, clifford | halving, api.GateVdg, api.GateV},
	api.GateVdg:  {"sxdg", 1, 0, clifford | halving, api.GateV, api.GateVdg},
	api.GateW:    {"sy", 1, 0, clifford | halving, api.GateWdg, api.GateW},
	api.GateWdg:  {"sydg", 1, 0, clifford | halving, api.GateW, api.GateWdg},
	api.GateCX:   {"cx", 2, 1, clifford, api.GateCX, api.GateX},
	api.GateCY:   {"cy", 2, 1, clifford, api.GateCY, api.GateY},
	api.GateCZ:   {"cz", 2, 0, clifford | diagonal, api.GateCZ, api.GateZ},
	api.GateSwap: {"swap", 2, 0, clifford, api.GateSwap, api.GateSwap},
	api.GateISw:  {"iswap", 2, 0, clifford, api.GateISwd, api.GateISw},
	api.GateISwd: {"iswapdg", 2, 0, clifford, api.GateISw, api.GateISwd},
	api.GateHH:   {"hh", 2, 0, clifford | halving, api.GateHH, api.GateHH},
	api.GateCCX:  {"ccx", 3, 2, 0, api.GateCCX, api.GateX},
	api.GateCCZ:  {"ccz", 3, 0, diagonal, api.GateCCZ, api.GateZ},
	api.GateCSw:  {"cswap", 3, 1, 0, api.GateCSw, api.GateSwap},
}

// deed is what a core does to each basis state: to which it goes, and by how many quarters it is turned.
type deed struct {
	to, turn [4]int
}

// deeds has what the monomial cores do at their numbers.
var deeds = [...]deed{
	api.GateI:    {[4]int{0, 1}, [4]int{0, 0}},
	api.GateX:    {[4]int{1, 0}, [4]int{0, 0}},
	api.GateY:    {[4]int{1, 0}, [4]int{1, 3}},
	api.GateZ:    {[4]int{0, 1}, [4]int{0, 2}},
	api.GateS:    {[4]int{0, 1}, [4]int{0, 1}},
	api.GateSdg:  {[4]int{0, 1}, [4]int{0, 3}},
	api.GateSwap: {[4]int{0, 2, 1, 3}, [4]int{0, 0, 0, 0}},
	api.GateISw:  {[4]int{0, 2, 1, 3}, [4]int{0, 1, 1, 0}},
	api.GateISwd: {[4]int{0, 2, 1, 3}, [4]int{0, 3, 3, 0}},
}

// rowOf answers a kind's row, or that of no kind.
func rowOf(k api.GateKind) row {
	if k < 0 || int(k) >= len(table) {
		return row{}
	}
	return table[k]
}

func known(k api.GateKind) bool { return rowOf(k).qubits > 0 }

package rewrite_test

import (
	"math/rand"
	"testing"

	"phasor/api"
	"phasor/apply"
	"phasor/gate"
	"phasor/matrix"
)

// P18.8: by hand.
func TestPack(t *testing.T) {
	for _, w := range [][2]string{
		{"id 0", ""},
		{"id 0; id 1; id 0", ""},
		{"x 0; x 0", ""},
		{"s 0; s 1; s 0; s 1", "z 0; z 1"},
		{"sx 0; s 1; sx 0; id 2", "x 0; s 1"},
		{"z 0; y 0", "z 0; y 0"},
		{"s 0; sx 0; s 1; sx 0", "s 0; x 0; s 1"},
		// -i times y: z is done first.
		{"s 0; s 0; sx 0; sx 0", "z 0; x 0"},
		{"x 0; cx 0 1; x 0", "x 0; cx 0 1; x 0"},
		{"s 0; cx 1 2; s 0", "z 0; cx 1 2"},
		{"s 0; s 0; cx 0 1; sx 0; s 1; sx 0; s 1", "z 0; cx 0 1; x 0; z 1"},
		{"s 0; id 0; cz 0 1; id 0; cz 0 1; id 1", "s 0; cz 0 1; cz 0 1"},
		// All of a word stands in the place of the first gate.
		{"s 0; x 1; sx 0; cx 1 2; s 0; sdg 0", "s 0; sx 0; x 1; cx 1 2"},
		{"s 0; measure 1 -> 0; s 0", "z 0; measure 1 -> 0"},
		{"s 0; if 0 1 x 1; reset 2; barrier 1 2; s 0", "z 0; if 0 1 x 1; reset 2; barrier 1 2"},
		{"if 0 1 id 0; id 0; if 0 1 id 0", "if 0 1 id 0; if 0 1 id 0"},
	} {
		pack.wantText(t, w[0], w[1])
	}
	for _, s := range []string{
		"s 0; measure 0 -> 0; s 0", "s 0; reset 0; s 0", "s 0; barrier 0; s 0", "s 0; if 0 1 s 0; s 0", "if 0 1 s 0; if 0 1 s 0", "cx 0 1; cx 0 1", "cz 0 1; hh 0 1; hh 0 1",
		"s 0; barrier 1 0; s 0; s 1",
	} {
		pack.stays(t, s)
	}
}

// P18.8: each row of up to three kinds: what stands there is layer 6's Word of the product.
func TestPackWords(t *testing.T) {
	var short []api.GateKind
	for _, k := range gate.Kinds() {
		if gate.Arity(k) == 1 {
			short = append(short, k)
		}
	}
	for _, a := range short {
		for _, b := range short {
			for _, c := range short {
				row := of(1, 0, do(a, 0), do(b, 0), do(c, 0))
				m, _ := apply.Unitary(row)
				word, e := gate.Word(m)
				wanted := of(1, 0)
				for _, k := range word {
					wanted.Ops = append(wanted.Ops, do(k, 0))
				}
				if e != api.OK || len(word) > 3 {
					t.Fatal(row, word, e)
				}
				pack.want(t, "a row of three", row, wanted)
				if n, _ := apply.Unitary(wanted); !matrix.Equal(m, n) {
					t.Errorf("%v: %v", row, wanted)
				}
			}
		}
	}
}

// P18.8: circuits at chance, against the slow way.
func TestPackAtChance(t *testing.T) {
	chance := rand.New(rand.NewSource(1809))
	for _, c := range samples(chance, 800) {
		pack.want(t, "one at chance", c, slowPack(t, c))
	}
}

// P18.8: the longest rows, and the most.
func TestLongPack(t *testing.T) {
	pack.want(t, "one row", of(1, 0, times(4096, do(api.GateS, 0))...), of(1, 0))
	pack.want(t, "one row", of(1, 0, times(4095, do(api.GateV, 0))...), of(1, 0, do(api.GateVdg, 0)))
	chance := rand.New(rand.NewSource(1810))
	c := wish{qubits: 1, ops: 4096, halves: 4096, kinds: []api.GateKind{api.GateS, api.GateV, api.GateW, api.GateX, api.GateZ}}
	row := of(1, 0)
	for range c.ops {
		row.Ops = append(row.Ops, c.gate(chance, []int{0}))
	}
	pack.want(t, "one row at chance", row, slowPack(t, row))
	var many, left []api.Op
	for i := range 4096 {
		k := api.GateKind(1 + i/64%10)
		op := do(k, i%64)
		if i/64%2 == 1 {
			op = when(0, 1, op)
		}
		many = append(many, op)
		if k != api.GateI || op.If == 0 {
			left = append(left, op)
		}
	}
	pack.want(t, "rows of one", of(64, 1, many...), of(64, 1, left...))
}

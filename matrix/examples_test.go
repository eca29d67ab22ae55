package matrix_test

import (
	"testing"

	"phasor/api"
	"phasor/matrix"
)

// The chapter's examples, as they stand there.

func TestExampleOne(t *testing.T) {
	x := of(2, 0, 1, 1, 0)
	m, e := matrix.Mul(x, x)
	wantMatrix(t, "x times x", m, e, unit(2, 1))
	one, _ := matrix.Identity(2)
	k, e := matrix.Kron(one, x)
	wantMatrix(t, "Kron", k, e, of(4, 0, 1, 0, 0, 1, 0, 0, 0, 0, 0, 0, 1, 0, 0, 1, 0))
	p, e := matrix.Place(x, []int{1}, 2)
	wantMatrix(t, "Place", p, e, of(4, 0, 0, 1, 0, 0, 0, 0, 1, 1, 0, 0, 0, 0, 1, 0, 0))
}

func TestExampleTwo(t *testing.T) {
	if !matrix.Unitary(of(2, 0.5+0.5i, 0.5-0.5i, 0.5-0.5i, 0.5+0.5i)) || matrix.Unitary(of(2, 1, 1, 0, 1)) {
		t.Error("Unitary")
	}
	if k := matrix.Phase(of(2, 0, -1i, 1i, 0), of(2, 0, 1, -1, 0)); k != 3 {
		t.Error("Phase", k)
	}
}

func TestExampleThree(t *testing.T) {
	m := of(2, 1, 2i, 3, 4)
	if z, e := matrix.Det(m); z != 4-6i || e != api.OK {
		t.Error("Det", z, e)
	}
	a, e := matrix.Adjugate(m)
	wantEqual(t, "Adjugate", a, of(2, 4, -2i, -3, 1))
	if e != api.OK {
		t.Error(e)
	}
	p, e := matrix.Power(of(2, 0, 1, 1, 0), 3)
	wantMatrix(t, "Power", p, e, of(2, 0, 1, 1, 0))
	none, e := matrix.Minor(of(1, 1), 0, 0)
	wantNone(t, "Minor of one row", none, e, api.ErrShape)
	if _, e := matrix.Det(unit(7, 1)); e != api.ErrBig {
		t.Error("Det of 7 rows", e)
	}
	if e := matrix.Check(of(3, 1, 2, 3, 4, 5, 6, 7, 8)); e != api.ErrShape {
		t.Error("Check", e)
	}
	none, e = matrix.Kron(unit(16, 1), unit(8, 1))
	wantNone(t, "Kron of 16 and 8 rows", none, e, api.ErrBig)
	if z, e := matrix.Trace(unit(4, 1)); !sameNumber(z, 4) || e != api.OK {
		t.Error("Trace", z, e)
	}
}

package scalar_test

import (
	"testing"

	"phasor/api"
	"phasor/scalar"
)

// The chapter's examples, as they stand there.

func TestExampleOne(t *testing.T) {
	for want, x := range map[string]float64{"0x1p0": 1, "-0x1.8p-1": -0.75, "0x1p-1074": least, "0x1.fffffffffffffp1023": most} {
		if s := scalar.Print(x); s != want {
			t.Errorf("%x: %s", x, s)
		}
	}
	for _, s := range []string{"0x1.80p0", "+0", "1"} {
		if x, e := scalar.Parse(s); x != 0 || e != api.ErrFloat {
			t.Errorf("%s: %x %d", s, x, e)
		}
	}
}

func TestExampleTwo(t *testing.T) {
	if m, e, err := scalar.Split(12); m != 3 || e != 2 || err != api.OK {
		t.Error(m, e, err)
	}
	wantFloat(t, "a tie", scalar.Join(3, -1075), 0x1p-1073)
	wantFloat(t, "too small", scalar.Join(1, -1075), 0)
	wantFloat(t, "rounded", scalar.Join(1<<53+1, 0), 0x1p53)
	wantFloat(t, "too great", scalar.Join(-1, 9999), -inf)
}

func TestExampleThree(t *testing.T) {
	wantFloat(t, "above 0", scalar.Next(0, true), 0x1p-1074)
	wantFloat(t, "above -0", scalar.Next(minus0, true), 0)
	half, exact := scalar.Half(0x1p-1074)
	wantFloat(t, "half", half, 0)
	if exact || !scalar.Exact(0.375, 3) || scalar.Exact(0.375, 2) || !scalar.Exact(minus0, -5) {
		t.Error("what is exact")
	}
}

func TestExampleFour(t *testing.T) {
	l := []float64{1, 0x1p53, -0x1p53}
	wantFloat(t, "Sum", scalar.Sum(l), 0)
	wantFloat(t, "Pairs", scalar.Pairs(l), 0)
	wantFloat(t, "Whole", scalar.Whole(l), 1)
	wantFloat(t, "Sum of -0", scalar.Sum([]float64{minus0}), 0)
	wantFloat(t, "Pairs of -0", scalar.Pairs([]float64{minus0}), minus0)
	wantFloat(t, "Whole of -0", scalar.Whole([]float64{minus0, minus0}), minus0)
	wantFloat(t, "Whole of 1, -1", scalar.Whole([]float64{1, -1}), 0)
}

func TestExampleFive(t *testing.T) {
	for _, c := range []struct {
		x      float64
		digits int
		want   string
	}{{0.125, 2, "0.12"}, {0.375, 2, "0.38"}, {-0.001, 2, "-0.00"}, {2.5, 0, "2"}} {
		if s, e := scalar.Fixed(c.x, c.digits); s != c.want || e != api.OK {
			t.Errorf("%g, %d: %s %d", c.x, c.digits, s, e)
		}
	}
}

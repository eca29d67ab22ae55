package scalar_test

import (
	"math"
	"math/big"
	"math/rand"
	"slices"
	"testing"

	"phasor/scalar"
)

// P2.6: the three sums of one list.
func TestSums(t *testing.T) {
	const big, tie = 1 << 53, 0x1p-53
	for _, c := range []struct {
		l                 []float64
		sum, pairs, whole float64
	}{
		{nil, 0, 0, 0},
		{[]float64{}, 0, 0, 0},
		{[]float64{3}, 3, 3, 3},
		{[]float64{minus0}, 0, minus0, minus0},
		{[]float64{minus0, minus0}, 0, minus0, minus0},
		{[]float64{minus0, minus0, minus0}, 0, minus0, minus0},
		{[]float64{minus0, 0}, 0, 0, 0},
		{[]float64{0, minus0}, 0, 0, 0},
		{[]float64{0}, 0, 0, 0},
		{[]float64{1, -1}, 0, 0, 0},
		{[]float64{minus0, 1, -1}, 0, 0, 0},
		{[]float64{-1, minus0}, -1, -1, -1},
		{[]float64{minus0, 1, minus0}, 1, 1, 1},
		{[]float64{1, big, -big}, 0, 0, 1},
		{[]float64{big, -big, 1}, 1, 1, 1},
		{[]float64{big, 1, 1}, big, big + 0, big + 2},
		{[]float64{big, 1, 1, 1}, big, big + 2, big + 4},
		// Three of five stand in the first half.
		{[]float64{1, tie, tie, tie, tie}, 1, 1 + 0x1p-52, 1 + 0x1p-51},
		{[]float64{1, tie, tie}, 1, 1, 1 + 0x1p-52},
		{[]float64{tie, tie, 1}, 1 + 0x1p-52, 1 + 0x1p-52, 1 + 0x1p-52},
		{[]float64{most, most, -most}, inf, inf, most},
		{[]float64{-most, -most, most}, -inf, -inf, -most},
		{[]float64{most, most}, inf, inf, inf},
		{[]float64{-most, -most}, -inf, -inf, -inf},
		{[]float64{inf}, inf, inf, inf},
		{[]float64{-inf, -inf}, -inf, -inf, -inf},
		{[]float64{-inf, 1}, -inf, -inf, -inf},
		{[]float64{1, inf}, inf, inf, inf},
		{[]float64{inf, -inf}, nan, nan, nan},
		{[]float64{-inf, 1, inf}, nan, nan, nan},
		{[]float64{nan}, nan, nan, nan},
		{[]float64{1, nan, inf}, nan, nan, nan},
		{[]float64{inf, -inf, inf}, nan, nan, nan},
		{[]float64{minus0, -inf}, -inf, -inf, -inf},
		{[]float64{nan, minus0}, nan, nan, nan},
		{[]float64{least, least}, 2 * least, 2 * least, 2 * least},
		{[]float64{-least, normal}, normal - least, normal - least, normal - least},
	} {
		before := slices.Clone(c.l)
		wantFloat(t, "Sum", scalar.Sum(c.l), c.sum)
		wantFloat(t, "Pairs", scalar.Pairs(c.l), c.pairs)
		wantFloat(t, "Whole", scalar.Whole(c.l), c.whole)
		if !slices.EqualFunc(before, c.l, same) {
			t.Error("the list was changed:", before, c.l)
		}
		if t.Failed() {
			t.Fatal(c.l)
		}
	}
}

// P2.6: Sum is what its words say, of any lists.
func TestSumAndPairsInOrder(t *testing.T) {
	chance := rand.New(rand.NewSource(6))
	for n := range 40 {
		l := make([]float64, n)
		for i := range l {
			l[i] = math.Ldexp(chance.Float64()-0.5, chance.Intn(80))
		}
		sum := 0.0
		for i := range l {
			sum = sum + l[i]
		}
		wantFloat(t, "Sum", scalar.Sum(l), sum)
		if n > 1 {
			wantFloat(t, "Pairs", scalar.Pairs(l), scalar.Pairs(l[:(n+1)/2])+scalar.Pairs(l[(n+1)/2:]))
		}
	}
}

// P2.6: infinities and NaNs at whichever place.
func TestWholeOfWhatIsNotFinite(t *testing.T) {
	for i := range 5 {
		for _, n := range append(nans(), inf, -inf) {
			l := []float64{1, most, most, -least, minus0}
			l[i] = n
			wantFloat(t, "one that is not finite", scalar.Whole(l), n)
			wantFloat(t, "two alike", scalar.Whole(append(l, n)), n)
			wantFloat(t, "two infinities", scalar.Whole(append(l, inf, -inf)), nan)
		}
	}
}

// P2.6: ties of the exact sum, with nothing or with the least float beside them.
func TestWholeTies(t *testing.T) {
	for _, c := range []struct {
		l    []float64
		want float64
	}{
		{[]float64{1, 0x1p-53}, 1},
		{[]float64{1, 0x1p-53, least}, 1 + 0x1p-52},
		{[]float64{1, 0x1p-53, -least}, 1},
		{[]float64{-1, -0x1p-53, -least}, -1 - 0x1p-52},
		{[]float64{1 + 0x1p-52, 0x1p-53}, 1 + 0x1p-51},
		{[]float64{1 + 0x1p-52, 0x1p-53, -least}, 1 + 0x1p-52},
		{[]float64{1, -0x1p-54}, 1},
		{[]float64{1, -0x1p-54, -least}, 1 - 0x1p-53},
		{[]float64{1, 0x1p-53, 0x1p-116}, 1 + 0x1p-52},
		{[]float64{1, 0x1p-53, 0x1p-117}, 1 + 0x1p-52},
		{[]float64{1, 0x1p-53, 0x1p-64}, 1 + 0x1p-52},
		{[]float64{1, 0x1p-53, 0x1p-200}, 1 + 0x1p-52},
		{[]float64{most, 0x1p969}, most},
		{[]float64{most, 0x1p970}, inf},
		{[]float64{most, 0x1p970, -least}, most},
		{[]float64{-most, -0x1p970}, -inf},
		{[]float64{-most, -0x1p970, least}, -most},
		{[]float64{normal, -least}, normal - least},
		{[]float64{0x1p1023, 0x1p1023, -0x1p1023, -0x1p1023, least}, least},
		{[]float64{most, least, -most, -least}, 0},
		{[]float64{most, least, -most, -2 * least}, -least},
	} {
		wantFloat(t, "Whole", scalar.Whole(c.l), c.want)
	}
}

// P2.6, P2.9: Whole is rounded as big numbers are, whatever the order of the list; a float and the same with the other sign turn nothing.
func TestWholeAgainstBigNumbers(t *testing.T) {
	chance := rand.New(rand.NewSource(7))
	all := slices.DeleteFunc(samples(), func(x float64) bool { return !isFinite(x) })
	for range 3000 {
		l := someOf(chance, all)
		exact := new(big.Rat)
		signed := len(l) > 0
		for _, x := range l {
			exact.Add(exact, new(big.Rat).SetFloat64(x))
			signed = signed && same(x, minus0)
		}
		want := rounded(exact, signed)
		if got := scalar.Whole(l); !same(got, want) {
			t.Fatalf("%x: %x, not %x", l, got, want)
		}
		more := append(slices.Clone(l), all[chance.Intn(len(all))])
		more = append(more, -more[len(l)])
		chance.Shuffle(len(more), func(i, j int) { more[i], more[j] = more[j], more[i] })
		if got := scalar.Whole(more); got != want {
			t.Fatalf("%x: %x, not %x", more, got, want)
		}
		chance.Shuffle(len(l), func(i, j int) { l[i], l[j] = l[j], l[i] })
		wantFloat(t, "shuffled", scalar.Whole(l), want)
	}
}

// someOf picks floats; in some lists all but a little is taken away again.
func someOf(chance *rand.Rand, all []float64) []float64 {
	var l []float64
	for range chance.Intn(12) {
		x := all[chance.Intn(len(all))]
		l = append(l, x)
		if chance.Intn(2) == 0 {
			l = append(l, -scalar.Next(x, chance.Intn(2) == 0))
		}
	}
	return slices.DeleteFunc(l, func(x float64) bool { return !isFinite(x) })
}

// P2.6: a long list of the greatest floats, and then all of them taken away.
func TestWholeOfManyFloats(t *testing.T) {
	const n = 1 << 17
	l := make([]float64, 0, 2*n+1)
	for range n {
		l = append(l, -most)
	}
	wantFloat(t, "many", scalar.Whole(l), -inf)
	for range n {
		l = append(l, most)
	}
	wantFloat(t, "none", scalar.Whole(l), 0)
	wantFloat(t, "the least one", scalar.Whole(append(l, least)), least)
}

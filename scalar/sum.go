package scalar

// Sum adds from the left, each sum rounded.
func Sum(l []float64) float64 {
	sum := 0.0
	for _, x := range l {
		sum += x
	}
	return sum
}

// Pairs adds the first half and the rest, each added in the same way.
func Pairs(l []float64) float64 {
	switch len(l) {
	case 0:
		return 0
	case 1:
		return l[0]
	}
	first := (len(l) + 1) / 2
	return Pairs(l[:first]) + Pairs(l[first:])
}

package code_test

import (
	"math"
	"math/rand"
	"slices"
	"testing"
)

// placed is a state of noughts, but for one number at some places.
func placed(n int, z complex128, places ...int) []complex128 {
	s := make([]complex128, 1<<n)
	for _, k := range places {
		s[k] = z
	}
	return s
}

// P25.3: encoded noughts and ones, by hand.
func TestEncode(t *testing.T) {
	encode.want(t, given{name: "bit", zero: 2 + 1i, one: -3i}, told{s: []complex128{2 + 1i, 0, 0, 0, 0, 0, 0, -3i}})
	encode.want(t, given{name: "bit"}, told{s: make([]complex128, 8)})
	encode.want(t, given{name: "sign", one: 1}, told{s: []complex128{0.125, -0.125, -0.125, 0.125, -0.125, 0.125, 0.125, -0.125}})
	// of three stabilizers of letters X, steane's words: rows of bits that are sums of 1111 at the places 3 to 6, 0110011, 1010101
	encode.want(t, given{name: "steane", zero: 1}, told{s: placed(7, 0.125, 0, 0b1111000, 0b1100110, 0b1010101, 0b0011110, 0b0101101, 0b0110011, 0b1001011)})
	encode.want(t, given{name: "shor", zero: 8}, told{s: placed(9, 1, 0, 0b111, 0b111000, 0b111000000, 0b111111, 0b111111000, 0b111000111, 0b111111111)})
	signs := placed(9, 0.125, 0, 0b111111, 0b111111000, 0b111000111)
	for _, k := range []int{0b111, 0b111000, 0b111000000, 0b111111111} {
		signs[k] = -0.125
	}
	encode.want(t, given{name: "shor", one: 1}, told{s: signs})
}

// P25.3: noughts with a sign go, and what is too small is rounded at each half.
func TestEncodeOfOddNumbers(t *testing.T) {
	encode.want(t, given{name: "bit", zero: complex(minus0, minus0), one: complex(minus0, 1)}, told{s: []complex128{0, 0, 0, 0, 0, 0, 0, 1i}})
	encode.want(t, given{name: "sign", zero: tiny}, told{s: make([]complex128, 8)})
	encode.want(t, given{name: "sign", zero: 5 * tiny}, told{s: make([]complex128, 8)})                // 2.5 is 2, then 1, and the half of it is 0: an eighth at once would be 1
	encode.want(t, given{name: "sign", zero: 7 * tiny}, told{s: slices.Repeat([]complex128{tiny}, 8)}) // 3.5 is 4, then 2, 1
	encode.want(t, given{name: "bit", zero: math.MaxFloat64}, told{s: placed(3, complex(inf, 0), 0)})
	chance := rand.New(rand.NewSource(2502))
	for _, name := range names() {
		for i := range 120 {
			draw := draws()[i%len(draws())]
			encode.wantSlow(t, given{name: name, zero: number(chance, draw), one: number(chance, draw)})
		}
	}
}

// P25.4: what Read, Correct and Decode say of states, by hand.
func TestRead(t *testing.T) {
	for _, c := range []struct {
		s         []complex128
		syndrome  []int
		corrected []complex128
		zero, one complex128
	}{
		{[]complex128{1, 0, 0, 0, 0, 0, 0, 0}, []int{0, 0}, []complex128{1, 0, 0, 0, 0, 0, 0, 0}, 1, 0},
		{[]complex128{1, 0, 0, 0, 0, 0, 0, 1i}, []int{0, 0}, []complex128{1, 0, 0, 0, 0, 0, 0, 1i}, 1, 1i},
		{[]complex128{0, 2, 0, 0, 0, 0, 3, 0}, []int{1, 0}, []complex128{2, 0, 0, 0, 0, 0, 0, 3}, 0, 0},
		{[]complex128{0, 0, 2, 0, 0, -1, 0, 0}, []int{1, 1}, []complex128{2, 0, 0, 0, 0, 0, 0, -1}, 0, 0},
		{[]complex128{0, 0, 0, 5, 0, 0, 0, 0}, []int{0, 1}, []complex128{0, 0, 0, 0, 0, 0, 0, 5}, 0, 0},
		{make([]complex128, 8), []int{0, 0}, make([]complex128, 8), 0, 0},
		{slices.Repeat([]complex128{complex(minus0, minus0)}, 8), []int{0, 0}, make([]complex128, 8), complex(minus0, 0), complex(minus0, 0)},
		{[]complex128{complex(inf, 1), 0, 0, 0, 0, 0, 0, 0}, []int{0, 0}, []complex128{complex(inf, 1), 0, 0, 0, 0, 0, 0, 0}, 0, 0},
	} {
		g := given{name: "bit", s: c.s}
		look.want(t, g, told{syndrome: c.syndrome})
		correct.want(t, g, told{s: c.corrected, syndrome: c.syndrome})
		if finite(c.s) {
			decode.want(t, g, told{zero: c.zero, one: c.one})
		}
	}
	for _, c := range []struct {
		s      []complex128
		wanted []int
	}{
		{[]complex128{1, 1, 0, 0, 0, 0, 0, 0}, []int{2, 0}},
		{[]complex128{1, 0, 1, 0, 0, 0, 0, 0}, []int{2, 2}},
		{[]complex128{1, 0, 0, 0, 1, 0, 0, 0}, []int{0, 2}},
		{[]complex128{0, 1, 1, 0, 0, 0, 0, 0}, []int{1, 2}},
		{[]complex128{complex(nan, 0), 0, 0, 0, 0, 0, 0, 0}, []int{2, 2}},
		{[]complex128{1, tiny, 0, 0, 0, 0, 0, 0}, []int{2, 0}},
	} {
		look.want(t, given{name: "bit", s: c.s}, told{syndrome: c.wanted})
		correct.refuses(t, given{name: "bit", s: c.s})
	}
	decode.want(t, given{name: "bit", s: []complex128{1, 1, 9, 9, 9, 9, 9, -2i}}, told{zero: 1, one: -2i})
	decode.want(t, given{name: "sign", s: []complex128{8, 0, 0, 0, 0, 0, 0, 0}}, told{zero: 1, one: 1})
}

// P25.4: of states at chance, of encoded ones, and of what errors make of these.
func TestStates(t *testing.T) {
	chance := rand.New(rand.NewSource(2503))
	for _, name := range names() {
		n := books()[name].n
		for i := range 160 {
			draw := draws()[i%len(draws())]
			s := numbers(chance, 1<<n, draw)
			if i%3 > 0 {
				s = encode.answer(t, given{name: name, zero: number(chance, draw), one: number(chance, draw)}).s
			}
			for range i % 4 {
				s = struck(t, anyString(chance, n), s)
			}
			if chance.Intn(5) == 0 {
				s[chance.Intn(len(s))] += 0x1p-40
			}
			for _, f := range []call{look, correct, decode} {
				f.wantSlow(t, given{name: name, s: s})
			}
		}
	}
}

// P25.4: an error that no single letter takes back is refused, where the code knows none of its syndrome.
func TestCorrectRefuses(t *testing.T) {
	for name, texts := range map[string][]string{
		"steane":  {"+XZIIIII", "+IIZIIXI"},
		"surface": {"+ZIIZIIIII", "+IZIIIIZII"},
		"shor":    {"+XIIXIIIII", "+XIIXIIXII", "+iIZIXIIIII"},
	} {
		s := encode.answer(t, given{name: name, zero: 1, one: 0.5i}).s
		for _, text := range texts {
			wrong := struck(t, read(text), s)
			if l := look.answer(t, given{name: name, s: wrong}).syndrome; slices.Contains(l, 2) {
				t.Errorf("%s, %s: %v", name, text, l)
			}
			if known := correction.answer(t, given{name: name, syndrome: syndrome.answer(t, given{name: name, p: read(text)}).syndrome}).flag; !known {
				correct.refuses(t, given{name: name, s: wrong})
			} else {
				t.Errorf("%s knows the syndrome of %s", name, text)
			}
		}
	}
}

// P25.4: rows that are no state, and states of other qubits, are refused.
func TestWrongStates(t *testing.T) {
	for _, name := range names() {
		for _, s := range noStates(books()[name].n) {
			for _, f := range []call{look, correct, decode} {
				f.refuses(t, given{name: name, s: s})
			}
		}
	}
}

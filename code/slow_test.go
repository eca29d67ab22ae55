package code_test

import (
	"math"
	"slices"
	"strings"
	"sync"

	"phasor/api"
	"phasor/gate"
)

// The chapter, written a second time: strings are letters, and all of them are gone through.

// chapter is its table.
const chapter = `
| bit | 3 | ZZI, IZZ | XXX, ZII | X |
| sign | 3 | XXI, IXX | ZZZ, XII | Z |
| five | 5 | XZZXI, IXZZX, XIXZZ, ZXIXZ | XXXXX, ZZZZZ | X, Y, Z |
| steane | 7 | IIIXXXX, IXXIIXX, XIXIXIX, IIIZZZZ, IZZIIZZ, ZIZIZIZ | XXXXXXX, ZZZZZZZ | X, Y, Z |
| surface | 9 | IXXIXXIII, IIIXXIXXI, XXIIIIIII, IIIIIIIXX, ZZIZZIIII, IIIIZZIZZ, IIIZIIZII, IIZIIZIII | XIIXIIXII, ZZZIIIIII | X, Y, Z |
| shor | 9 | ZZIIIIIII, IZZIIIIII, IIIZZIIII, IIIIZZIII, IIIIIIZZI, IIIIIIIZZ, XXXXXXIII, IIIXXXXXX | ZZZZZZZZZ, XXXXXXXXX | X, Y, Z |`

// word is a string as letters, times a power of i.
type word struct {
	letters string
	phase   int
}

// book is a code: its table's row, the products of its stabilizers (their phases by their letters), and of all strings, by their syndromes, the one that comes first.
type book struct {
	n           int
	stabilizers []word
	x, z        word
	corrects    []string
	group       map[string]int
	first       map[string]word
	distance    int
}

// books are those of the table, made once.
var books = sync.OnceValue(func() map[string]book {
	all := map[string]book{}
	for line := range strings.Lines(strings.TrimSpace(chapter)) {
		cells := strings.Split(strings.Trim(strings.TrimSpace(line), "|"), "|")
		var b book
		for _, letters := range strings.Split(strings.TrimSpace(cells[2]), ", ") {
			b.stabilizers = append(b.stabilizers, word{letters: letters})
		}
		pair := strings.Split(strings.TrimSpace(cells[3]), ", ")
		b.x, b.z = word{letters: pair[0]}, word{letters: pair[1]}
		b.corrects = strings.Split(strings.TrimSpace(cells[4]), ", ")
		b.n = int(strings.TrimSpace(cells[1])[0] - '0')
		b.multiply()
		b.search()
		all[strings.TrimSpace(cells[0])] = b
	}
	return all
})

// multiply makes all products of some stabilizers.
func (b *book) multiply() {
	b.group = map[string]int{strings.Repeat("I", b.n): 0}
	for _, s := range b.stabilizers {
		for letters, phase := range b.copyOfGroup() {
			w := wordMul(word{letters, phase}, s)
			b.group[w.letters] = w.phase
		}
	}
}

func (b *book) copyOfGroup() map[string]int {
	all := map[string]int{}
	for letters, phase := range b.group {
		all[letters] = phase
	}
	return all
}

// search goes through all strings.
func (b *book) search() {
	b.first, b.distance = map[string]word{}, b.n+1
	none := string(make([]byte, len(b.stabilizers)))
	for k := range 1 << (2 * b.n) {
		letters := make([]byte, b.n)
		for q := range letters {
			letters[q] = "IXYZ"[k>>(2*q)&3]
		}
		w := word{letters: string(letters)}
		syndrome := b.spelt(w)
		if kept, is := b.first[syndrome]; !is || sooner(w, kept) {
			b.first[syndrome] = w
		}
		if _, is := b.group[w.letters]; syndrome == none && !is {
			b.distance = min(b.distance, len(w.places()))
		}
	}
}

// spelt is a syndrome, a byte a number.
func (b *book) spelt(w word) string {
	l := make([]byte, len(b.stabilizers))
	for i, s := range b.stabilizers {
		l[i] = byte(unlike(s.letters, w.letters))
	}
	return string(l)
}

func (b *book) syndrome(w word) []int {
	l := []int{}
	for _, c := range b.spelt(w) {
		l = append(l, int(c))
	}
	return l
}

// unlike is 1, if an odd number of places has two letters that are not I, and are unlike.
func unlike(a, b string) int {
	odd := 0
	for q := range len(a) {
		if a[q] != 'I' && b[q] != 'I' && a[q] != b[q] {
			odd ^= 1
		}
	}
	return odd
}

// places are those of the letters that are not I.
func (w word) places() []int {
	var l []int
	for q := range len(w.letters) {
		if w.letters[q] != 'I' {
			l = append(l, q)
		}
	}
	return l
}

// sooner tells whether a string comes ahead of another (P25.6).
func sooner(a, b word) bool {
	at, bt := a.places(), b.places()
	if len(at) != len(bt) {
		return len(at) < len(bt)
	}
	if order := slices.Compare(at, bt); order != 0 {
		return order < 0
	}
	return strings.ReplaceAll(a.letters, "I", "") < strings.ReplaceAll(b.letters, "I", "")
}

// wordMul is the product of two.
func wordMul(a, b word) word {
	letters, phase := make([]byte, len(a.letters)), a.phase+b.phase
	for q := range letters {
		l, turn := letterMul(a.letters[q], b.letters[q])
		letters[q], phase = l, phase+turn
	}
	return word{string(letters), phase % 4}
}

func letterMul(a, b byte) (byte, int) {
	switch {
	case a == 'I':
		return b, 0
	case b == 'I':
		return a, 0
	case a == b:
		return 'I', 0
	case strings.Contains("XYZXY", string([]byte{a, b})):
		return 'X' - a + ('Y' - b) + 'Z', 1
	}
	return 'X' - a + ('Y' - b) + 'Z', 3
}

func wordOf(p api.Pauli) word {
	letters := make([]byte, p.N)
	for q := range letters {
		letters[q] = "IXZY"[p.X>>q&1+2*(p.Z>>q&1)]
	}
	return word{string(letters), p.Phase}
}

func (w word) string() api.Pauli {
	p := api.Pauli{N: len(w.letters), Phase: w.phase}
	for q := range p.N {
		switch w.letters[q] {
		case 'X':
			p.X |= 1 << q
		case 'Z':
			p.Z |= 1 << q
		case 'Y':
			p.X, p.Z = p.X|1<<q, p.Z|1<<q
		}
	}
	return p
}

func stringsOf(l []word) []api.Pauli {
	var all []api.Pauli
	for _, w := range l {
		all = append(all, w.string())
	}
	return all
}

// slow is what a call answers, as the chapter says it.
func slow(name string, g given) (told, api.Errno) {
	b, is := books()[g.name]
	if name == "Qubits" {
		return told{n: b.n}, api.OK
	}
	if !is {
		return told{}, api.ErrCode
	}
	switch name {
	case "Stabilizers":
		return told{strings: stringsOf(b.stabilizers)}, api.OK
	case "Logical":
		return told{p: b.x.string(), q: b.z.string()}, api.OK
	case "Distance":
		return told{n: b.distance}, api.OK
	case "Encode":
		return told{s: b.encode(g.zero, g.one)}, api.OK
	case "Syndrome", "Trivial":
		return b.ofString(name, g.p)
	case "Correction", "Least":
		return b.ofSyndrome(name, g.syndrome)
	case "Read", "Correct", "Decode":
		return b.ofState(name, g.s)
	case "Concat":
		return b.concat(g.inner)
	case "Lift":
		return b.lift(g.kind)
	}
	panic(name)
}

func (b book) ofString(name string, p api.Pauli) (told, api.Errno) {
	if p.N != b.n || p.Phase&^3 != 0 || p.X >= 1<<b.n || p.Z >= 1<<b.n {
		return told{}, api.ErrCode
	}
	if name == "Syndrome" {
		return told{syndrome: b.syndrome(wordOf(p))}, api.OK
	}
	_, is := b.group[wordOf(p).letters]
	return told{flag: is}, api.OK
}

func (b book) ofSyndrome(name string, syndrome []int) (told, api.Errno) {
	spelt := ""
	for _, bit := range syndrome {
		if bit != 0 && bit != 1 {
			return told{}, api.ErrCode
		}
		spelt += string(rune(bit))
	}
	if len(spelt) != len(b.stabilizers) {
		return told{}, api.ErrCode
	}
	if name == "Least" {
		return told{p: b.first[spelt].string()}, api.OK
	}
	p, found := b.correction(spelt)
	return told{p: p, flag: found}, api.OK
}

func (b book) correction(spelt string) (api.Pauli, bool) {
	blank := strings.Repeat("I", b.n)
	l := []word{{letters: blank}}
	for q := range b.n {
		for _, letter := range b.corrects {
			l = append(l, word{letters: blank[:q] + letter + blank[q+1:]})
		}
	}
	for _, w := range l {
		if b.spelt(w) == spelt {
			return w.string(), true
		}
	}
	return api.Pauli{}, false
}

// cleared takes the signs of noughts away.
func cleared(re, im float64) complex128 { return complex(re+0, im+0) }

// act is a string applied to a state, letter by letter.
func (w word) act(s []complex128) []complex128 {
	moved := make([]complex128, len(s))
	for k, z := range s {
		to, turn := k, w.phase
		for q := range len(w.letters) {
			switch bit := k >> q & 1; w.letters[q] {
			case 'X':
				to ^= 1 << q
			case 'Y':
				to, turn = to^1<<q, turn+1+2*bit
			case 'Z':
				turn += 2 * bit
			}
		}
		re, im := real(z), imag(z)
		for range turn % 4 {
			re, im = -im, re
		}
		moved[to] = cleared(re, im)
	}
	return moved
}

func (b book) encode(zero, one complex128) []complex128 {
	low, high := b.left(zero), b.x.act(b.left(one))
	for k := range low {
		low[k] = cleared(real(low[k])+real(high[k]), imag(low[k])+imag(high[k]))
	}
	return low
}

// left is the chapter's K.
func (b book) left(z complex128) []complex128 {
	s := make([]complex128, 1<<b.n)
	s[0] = z
	for i := range b.n {
		w := b.z
		if i < len(b.stabilizers) {
			w = b.stabilizers[i]
		}
		moved := w.act(s)
		for k := range s {
			s[k] = cleared((real(s[k])+real(moved[k]))*0.5, (imag(s[k])+imag(moved[k]))*0.5)
		}
	}
	return s
}

func (b book) ofState(name string, s []complex128) (told, api.Errno) {
	if len(s) != 1<<b.n {
		return told{}, api.ErrCode
	}
	if name == "Decode" {
		return told{zero: inner(b.encode(1, 0), s), one: inner(b.encode(0, 1), s)}, api.OK
	}
	syndrome, spelt := []int{}, ""
	for _, w := range b.stabilizers {
		moved, stays, turns := w.act(s), true, true
		for k, z := range s {
			stays = stays && moved[k] == z
			turns = turns && real(moved[k]) == -real(z) && imag(moved[k]) == -imag(z)
		}
		said := 2
		switch {
		case stays:
			said = 0
		case turns:
			said = 1
		}
		syndrome, spelt = append(syndrome, said), spelt+string(rune(said))
	}
	if name == "Read" {
		return told{syndrome: syndrome}, api.OK
	}
	p, found := b.correction(spelt)
	if !found {
		return told{}, api.ErrCode
	}
	return told{s: wordOf(p).act(s), syndrome: syndrome}, api.OK
}

// inner is layer 9's Dot.
func inner(a, s []complex128) complex128 {
	var re, im float64
	for k, z := range s {
		x, y := real(a[k]), -imag(a[k])
		r, i := float64(x*real(z))-float64(y*imag(z)), float64(x*imag(z))+float64(y*real(z))
		if k == 0 {
			re, im = r, i
			continue
		}
		re, im = re+r, im+i
	}
	return complex(re, im)
}

// kept is what a string of one qubit is in a code.
func (b book) kept(one word) word {
	w := word{strings.Repeat("I", b.n), one.phase}
	switch one.letters {
	case "X":
		return wordMul(w, b.x)
	case "Z":
		return wordMul(w, b.z)
	case "Y":
		w.phase++
		return wordMul(wordMul(w, b.x), b.z)
	}
	return w
}

// spread is a string of which each qubit is kept in a code: letters of one block behind those of the other.
func (b book) spread(w word) word {
	whole := word{phase: w.phase}
	for q := range len(w.letters) {
		block := b.kept(word{letters: w.letters[q : q+1]})
		whole.letters, whole.phase = whole.letters+block.letters, (whole.phase+block.phase)%4
	}
	return whole
}

func (b book) concat(inner string) (told, api.Errno) {
	in, is := books()[inner]
	if !is || b.n*in.n > 64 {
		return told{}, api.ErrCode
	}
	var l []word
	for block := range b.n {
		for _, w := range in.stabilizers {
			l = append(l, word{letters: strings.Repeat("I", block*in.n) + w.letters + strings.Repeat("I", (b.n-block-1)*in.n)})
		}
	}
	for _, w := range b.stabilizers {
		l = append(l, in.spread(w))
	}
	return told{strings: stringsOf(l), p: in.spread(b.x).string(), q: in.spread(b.z).string()}, api.OK
}

func (b book) lift(k api.GateKind) (told, api.Errno) {
	if k < api.GateI || k > api.GateWdg {
		return told{}, api.ErrCode
	}
	images := imagesBy(k)
	for _, w := range b.stabilizers {
		if image := w.by(images); !b.product(image) {
			return told{}, api.OK
		}
	}
	return told{p: b.only(b.x.by(images)), q: b.only(b.z.by(images)), flag: true}, api.OK
}

// product tells whether a string is, with its phase, one of stabilizers.
func (b book) product(w word) bool {
	phase, is := b.group[w.letters]
	return is && phase == w.phase
}

// only is the one string of one qubit, of all sixteen, that is kept as this one, times a product of stabilizers.
func (b book) only(image word) api.Pauli {
	var found []word
	for _, letter := range []string{"I", "X", "Y", "Z"} {
		for phase := range 4 {
			one := word{letter, phase}
			for letters, turn := range b.group {
				if wordMul(image, word{letters, turn}) == b.kept(one) {
					found = append(found, one)
				}
			}
		}
	}
	if len(found) != 1 {
		panic("not one string")
	}
	return found[0].string()
}

// by is a string of which each letter becomes its image.
func (w word) by(images map[byte]word) word {
	whole := word{phase: w.phase}
	for q := range len(w.letters) {
		image := images[w.letters[q]]
		whole.letters, whole.phase = whole.letters+image.letters, (whole.phase+image.phase)%4
	}
	return whole
}

// imagesBy are the letters' images by a gate, told by its matrix.
func imagesBy(k api.GateKind) map[byte]word {
	u, _ := gate.Matrix(k)
	turned := [4]complex128{conj(u.E[0]), conj(u.E[2]), conj(u.E[1]), conj(u.E[3])}
	images := map[byte]word{}
	for _, from := range "IXYZ" {
		m := mul2(mul2([4]complex128(u.E), matrixOf(byte(from))), turned)
		for _, to := range "IXYZ" {
			for phase, z := range []complex128{1, 1i, -1, -1i} {
				if wanted := matrixOf(byte(to)); m == [4]complex128{z * wanted[0], z * wanted[1], z * wanted[2], z * wanted[3]} {
					images[byte(from)] = word{string(to), phase}
				}
			}
		}
	}
	if len(images) != 4 {
		panic("no image")
	}
	return images
}

func matrixOf(letter byte) [4]complex128 {
	return map[byte][4]complex128{'I': {1, 0, 0, 1}, 'X': {0, 1, 1, 0}, 'Y': {0, -1i, 1i, 0}, 'Z': {1, 0, 0, -1}}[letter]
}

func mul2(a, b [4]complex128) [4]complex128 {
	return [4]complex128{a[0]*b[0] + a[1]*b[2], a[0]*b[1] + a[1]*b[3], a[2]*b[0] + a[3]*b[2], a[2]*b[1] + a[3]*b[3]}
}

func conj(z complex128) complex128 { return complex(real(z), -imag(z)) }

// finite tells whether a state has neither infinities nor NaN.
func finite(s []complex128) bool {
	return !slices.ContainsFunc(s, func(z complex128) bool {
		return math.IsInf(real(z), 0) || math.IsInf(imag(z), 0) || math.IsNaN(real(z)) || math.IsNaN(imag(z))
	})
}

package circuit_test

import (
	"math/rand"
	"strings"
	"testing"

	"phasor/api"
	"phasor/circuit"
	"phasor/token"
)

// P8.6: what is printed is read again, and is the Same.
func TestPrintAndParse(t *testing.T) {
	chance := rand.New(rand.NewSource(810))
	for range 2000 {
		backAgain(t, someCircuit(chance))
	}
	for _, c := range []api.Circuit{{}, of(64, 0), of(0, 64), of(64, 64), of(1, 0, repeated(4096, do(api.GateX, 0))...), of(64, 64, when(63, 1, do(api.GateCSw, 63, 0, 31)), measure(63, 63))} {
		backAgain(t, c)
	}
}

func backAgain(t *testing.T, c api.Circuit) {
	t.Helper()
	s, e := circuit.Print(c)
	d, f := circuit.Parse(s)
	if e != api.OK || f != (api.Fault{}) || !circuit.Same(c, d) {
		t.Errorf("%.300s: %d %+v", tell(c), e, f)
	}
	wantCircuit(t, s, d, c)
}

// pieces are tokens of circuit texts, right and wrong.
func pieces() []string {
	return append(reservedWords(), "x", "s", "cx", "ccx", "hh", "a", "b", "d", "m", "n", "p", "r", "g", "g0", "g3", "h", "k", "0", "1", "2", "3", "7", "64", "65", "2.0", "2.1", `"qelib1.inc"`, `"x"`,
		";", ";", ";", ",", ",", "(", ")", "[", "]", "{", "}", "->", "==")
}

// somePiece is one statement, mostly right behind ab.
func somePiece(chance *rand.Rand) string {
	l := []string{
		"x a ;", "cx a , b ;", "cx a [ 1 ] , d ;", "ccx a , d [ 0 ] , b ;", "hh d [ 0 ] , d [ 1 ] ;", "measure a -> m ;", "measure d -> n ;", "measure b [ 2 ] -> n [ 1 ] ;", "reset d ;", "reset a [ 2 ] ;",
		"barrier a , d [ 0 ] ;", "barrier b ;", "if ( m [ 1 ] == 0 ) x a ;", "if ( n [ 0 ] == 1 ) cx b [ 0 ] , a ;", `include "qelib1.inc" ;`, "qreg e [ 2 ] ; x e ;", "creg f [ 3 ] ; measure b -> f ;",
		"gate g p { x p ; barrier p ; } g a ;", "gate g p , r { cx r , p ; s p ; } g a [ 0 ] , b ;", "gate h p , r { } h a , b ;", "gate g x , cx { cx cx , x ; } gate h r , p { g p , r ; g r , p ; barrier r , p ; } h b , a ;",
		"gate k p { s p ; s p ; } if ( m [ 0 ] == 1 ) k d ;", "gate g g { x g ; }", "g a [ 0 ] , b ;", "h a , b ;", "k a ;",
	}
	return l[chance.Intn(len(l))]
}

// near is another token of the same kind.
func near(chance *rand.Rand, word string) string {
	for _, l := range [][]string{strings.Fields("0 1 2 3 4 7 64"), strings.Fields("x s cx ccx hh"), strings.Fields("a b d m n p r g h k e")} {
		for _, one := range l {
			if one == word {
				return l[chance.Intn(len(l))]
			}
		}
	}
	return word
}

// someText is ab and some statements behind it, of which some tokens are turned.
func someText(chance *rand.Rand) string {
	text := ab
	for range chance.Intn(5) {
		text += somePiece(chance) + " "
	}
	words := strings.Fields(text)
	all := pieces()
	for range chance.Intn(4) {
		i := chance.Intn(len(words))
		if chance.Intn(10) > 0 {
			i = max(i, len(words)-1-chance.Intn(20))
		}
		switch chance.Intn(8) {
		case 0:
			words = append(words[:i], words[i+1:]...)
		case 1:
			words = append(words[:i+1], words[i:]...)
		case 2:
			words = words[:max(i, 1)]
		case 3:
			words[i] = all[chance.Intn(len(all))]
		default:
			words[i] = near(chance, words[i])
		}
		if len(words) == 0 {
			return ""
		}
	}
	return strings.Join(words, " ")
}

// againstSlow holds Parse against the slow reader, and answers its fault.
func againstSlow(t *testing.T, text string) api.Fault {
	t.Helper()
	c, f := circuit.Parse(text)
	wanted, fault := slowly(text)
	if f != fault {
		t.Errorf("%.600s: %+v, not %+v", text, f, fault)
	}
	wantCircuit(t, text, c, wanted)
	return f
}

// P8.3: texts of any statements with any tokens turned, against the slow reader.
func TestParseAgainstSlow(t *testing.T) {
	chance := rand.New(rand.NewSource(811))
	times := map[api.Errno]int{}
	for range 4000 {
		times[againstSlow(t, someText(chance)).Code]++
	}
	for _, code := range []api.Errno{api.OK, api.ErrSyntax, api.ErrUnknown, api.ErrTwice, api.ErrRange, api.ErrCall} {
		if times[code] < 40 {
			t.Errorf("error %d came up %d times", code, times[code])
		}
	}
}

// P8.3: too many operations, against the slow reader.
func TestParseManyAgainstSlow(t *testing.T) {
	chance := rand.New(rand.NewSource(812))
	many := 0
	calls := []string{"g12 a[0]; ", "g11 a[1]; ", "g10 a; ", "g10 b[0]; ", "g9 d; ", "g8 a; ", "g1 a[1]; ", "x a; ", "measure a -> m; ", "reset b; ", "barrier a; ", "g12 a; ", "g0 d; ", "if (m[0] == 1) g10 a[2]; ",
		"gate h p, r { g11 p; g11 r; } h a[0], b[0]; ", "gate h p, r { g11 p; g11 r; barrier p; } ", "gate k p { g10 p; g10 p; g10 p; } k a[0]; "}
	for range 80 {
		text := ab + doubling(12, "x p;")
		for range 1 + chance.Intn(5) {
			text += calls[chance.Intn(len(calls))]
		}
		if againstSlow(t, text).Code == api.ErrMany {
			many++
		}
	}
	if many < 8 || many > 72 {
		t.Error(many)
	}
}

// P8.3: tokens are read from the first on: what stands behind a token that is refused turns nothing.
func TestWhatStandsBehind(t *testing.T) {
	chance := rand.New(rand.NewSource(813))
	for range 3000 {
		text := someText(chance)
		_, f := circuit.Parse(text)
		if f.Code == api.OK {
			continue
		}
		behind := f.At.Off + len(strings.SplitN(text[f.At.Off:]+" ", " ", 2)[0])
		if f.Code == api.ErrCall {
			behind = f.At.Off + strings.Index(text[f.At.Off:], ";") + 1
		}
		if f.At.Off == len(text) {
			continue
		}
		for _, tail := range []string{"", " ", " ; }", " x y z", " " + somePiece(chance)} {
			c, again := circuit.Parse(text[:behind] + tail)
			wantNone(t, text, c)
			if again != f {
				t.Errorf("%.400s: %+v, but with %q behind %+v", text, f, tail, again)
			}
		}
	}
}

// P8.3: a text that ends too early is refused at its end.
func TestEarlyEnds(t *testing.T) {
	chance := rand.New(rand.NewSource(814))
	for range 60 {
		text := ab + somePiece(chance) + " " + somePiece(chance)
		if _, f := circuit.Parse(text); f.Code != api.OK {
			continue
		}
		l, _ := token.Scan(text)
		for _, one := range l {
			againstSlow(t, text[:one.At.Off])
		}
	}
}

// P8.6: blanks and comments turn nothing but spots.
func TestBlanks(t *testing.T) {
	chance := rand.New(rand.NewSource(815))
	gaps := []string{" ", "\n", "\t", "\r", "//\n", "// x a; é\n"}
	for range 2000 {
		text := someText(chance)
		l, scanned := token.Scan(text)
		if scanned.Code != api.OK {
			t.Fatalf("%s: %+v", text, scanned)
		}
		var b strings.Builder
		starts := map[int]api.Spot{}
		for _, one := range l {
			b.WriteString(gaps[chance.Intn(len(gaps))] + gaps[chance.Intn(len(gaps))])
			starts[one.At.Off] = spot(b.String())
			s, _ := token.Write(one)
			b.WriteString(s)
		}
		c, f := circuit.Parse(text)
		d, g := circuit.Parse(b.String())
		wantCircuit(t, b.String(), d, c)
		if f.Code != g.Code || f.Code != api.OK && starts[f.At.Off] != g.At {
			t.Errorf("%.400s: %+v; %.400s: %+v", text, f, b.String(), g)
		}
	}
}

// P8.6: what Parse takes may be; it prints, and is read again.
func TestWhatIsTaken(t *testing.T) {
	chance := rand.New(rand.NewSource(816))
	taken := 0
	for range 3000 {
		c, f := circuit.Parse(someText(chance))
		if f.Code != api.OK {
			continue
		}
		taken++
		wantCheck(t, c, true, 0)
		backAgain(t, c)
	}
	if taken < 300 {
		t.Error(taken)
	}
}

// P8.6: a define and the same operations written out are one; a call on registers is the row of calls on their elements.
func TestWrittenOut(t *testing.T) {
	for _, pair := range [][2]string{
		{"gate g p, r { sy p; cx p, r; barrier r; } g a[1], d[0];", "sy a[1]; cx a[1], d[0]; barrier d[0];"},
		{"gate g p, r { sy p; cx p, r; } gate h p, r { g r, p; g p, r; } h a, b;", "gate g p, r { sy p; cx p, r; } g b[0], a[0]; g a[0], b[0]; g b[1], a[1]; g a[1], b[1]; g b[2], a[2]; g a[2], b[2];"},
		{"gate g p { s p; x p; } if (m[2] == 1) g d;", "if (m[2] == 1) s d[0]; if (m[2] == 1) x d[0]; if (m[2] == 1) s d[1]; if (m[2] == 1) x d[1];"},
		{"ccx a, d[1], b;", "ccx a[0], d[1], b[0]; ccx a[1], d[1], b[1]; ccx a[2], d[1], b[2];"},
		{"measure a -> m; reset d; barrier d, a;", "measure a[0] -> m[0]; measure a[1] -> m[1]; measure a[2] -> m[2]; reset d[0]; reset d[1]; barrier d[0], d[1], a[0], a[1], a[2];"},
		{"gate none p { } x a; none a;", "x a;"},
	} {
		one, f := circuit.Parse(ab + pair[0])
		other, g := circuit.Parse(ab + pair[1])
		if f != (api.Fault{}) || g != (api.Fault{}) || !circuit.Same(one, other) {
			t.Errorf("%v: %+v %+v", pair, f, g)
		}
		wantCircuit(t, pair[0], one, other)
	}
}

// R3: no two lists of an answer share anything.
func TestParseOwnLists(t *testing.T) {
	const text = ab + "gate g p, r { cx p, r; barrier p, r; } gate h p, r { g p, r; g r, p; } h a, b; h a[0], b[0]; barrier a, b; measure a -> m;"
	c, _ := circuit.Parse(text)
	for i := range c.Ops {
		d, _ := circuit.Parse(text)
		list := d.Ops[i].Qubits[:cap(d.Ops[i].Qubits)]
		for k := range list {
			list[k] = -9
		}
		d.Ops[i].Qubits = c.Ops[i].Qubits
		wantCircuit(t, "one list spoilt", d, c)
	}
}

// FuzzParse goes there and back with any text, and holds it against the slow reader.
func FuzzParse(f *testing.F) {
	chance := rand.New(rand.NewSource(817))
	for range 60 {
		f.Add(someText(chance))
	}
	f.Add("")
	f.Add("OPENQASM 2.0")
	f.Add(head + doubling(3, "x p;") + "qreg a[1]; g3 a;")
	f.Fuzz(func(t *testing.T, text string) {
		if len(text) > 400 {
			return
		}
		if f := againstSlow(t, text); f.Code != api.OK {
			return
		}
		c, _ := circuit.Parse(text)
		wantCheck(t, c, true, 0)
		backAgain(t, c)
		d, qubits, bits, e := circuit.Compact(c)
		back, other := circuit.Embed(d, qubits, bits, c.Qubits, c.Bits)
		wantCircuit(t, text, back, c)
		if e != api.OK || other != api.OK {
			t.Errorf("%q: %d %d", text, e, other)
		}
	})
}

package pauli_test

import (
	"math/rand"
	"strings"
	"testing"

	"phasor/api"
	"phasor/pauli"
)

// P13.5: signs and letters, by hand, both ways.
func TestTexts(t *testing.T) {
	for _, c := range []struct {
		p    api.Pauli
		text string
	}{
		{api.Pauli{}, "+"}, {api.Pauli{Phase: 1}, "+i"}, {api.Pauli{Phase: 2}, "-"}, {api.Pauli{Phase: 3}, "-i"},
		{api.Pauli{N: 1}, "+I"}, {api.Pauli{N: 1, X: 1, Phase: 1}, "+iX"}, {api.Pauli{N: 1, X: 1, Z: 1, Phase: 2}, "-Y"}, {api.Pauli{N: 1, Z: 1, Phase: 3}, "-iZ"},
		{api.Pauli{N: 3, X: 5, Z: 4, Phase: 3}, "-iXIY"}, {api.Pauli{N: 4, X: 6, Z: 12}, "+IXYZ"}, {api.Pauli{N: 4, X: 6, Z: 3, Phase: 1}, "+iZYXI"},
		{api.Pauli{N: 2, Phase: 1}, "+iII"},
		{api.Pauli{N: 64, X: 1 << 63, Z: 1}, "+Z" + strings.Repeat("I", 62) + "X"},
		{api.Pauli{N: 64, X: 1<<64 - 1, Z: 1<<64 - 1, Phase: 3}, "-i" + strings.Repeat("Y", 64)},
	} {
		wantText(t, "Print", c.p, api.OK, c.text)
		p, e := pauli.Parse(c.text)
		want(t, "Parse of "+c.text, p, e, c.p)
	}
}

// P13.5: all strings of few qubits, and some of any number, are read again as they were; no two are written alike.
func TestTextsThereAndBack(t *testing.T) {
	chance := rand.New(rand.NewSource(1331))
	l := append(append(all(0), all(1)...), append(all(2), all(3)...)...)
	for n := range 65 {
		l = append(l, anyString(chance, n))
	}
	seen := map[string]api.Pauli{}
	for _, p := range l {
		text, e := pauli.Print(p)
		if e != api.OK || !strings.HasSuffix(text, lettersOf(p)) || len(text) != p.N+1+p.Phase%2 {
			t.Error(p, text, e)
		}
		if other, ok := seen[text]; ok && other != p {
			t.Error(text, p, other)
		}
		seen[text] = p
		again, e := pauli.Parse(text)
		want(t, text, again, e, p)
	}
	for _, wrong := range wrongs() {
		if text, e := pauli.Print(wrong); text != "" || e != api.ErrPauli {
			t.Error(wrong, text, e)
		}
	}
}

// P13.5: what Print writes of no string.
func TestParseRefuses(t *testing.T) {
	for _, text := range []string{
		"", "X", "XX", "I", "i", "iX", "i+X", "+A", "+-X", "-+X", "++X", "--X", "+x", "+y", "+z", "+XiX", "+ii", "+iiX", "-Xi", "+jX", "*X",
		" +X", "+X ", "+ X", "+X\n", "\n+X", "\t", "+X,Z", "+X+Z", "+1", "+0X", "1X", "+iXY-", "+X\x00", "\x00", "\x00+X",
		"−X", "+X\xff", "\xff", "+é", "+Х", "+X\u0301", "+i\u0131", "\ufeff+X", "+IXYZW", "+IXYZH",
		"+" + strings.Repeat("X", 65), "-i" + strings.Repeat("I", 65), "+" + strings.Repeat("Z", 1<<16), strings.Repeat("+", 64), "+" + strings.Repeat("X", 63) + "A",
	} {
		p, e := pauli.Parse(text)
		wantNone(t, "Parse of "+text, p, e)
	}
}

// P13.5: of all texts of up to four marks those are read that some string is written as.
func TestParseOfAllShortTexts(t *testing.T) {
	written := map[string]api.Pauli{}
	for n := range 4 {
		for _, p := range all(n) {
			text, _ := pauli.Print(p)
			written[text] = p
		}
	}
	var try func(text string)
	try = func(text string) {
		p, e := pauli.Parse(text)
		if wanted, ok := written[text]; ok {
			want(t, text, p, e, wanted)
		} else {
			wantNone(t, text, p, e)
		}
		if len(text) == 4 {
			return
		}
		for _, mark := range "+-iIXYZ xjA" {
			try(text + string(mark))
		}
	}
	try("")
}

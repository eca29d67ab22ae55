package circuit_test

import (
	"strings"
	"testing"

	"phasor/api"
)

// reservedWords are the chapter's.
func reservedWords() []string {
	return strings.Fields("OPENQASM include qreg creg gate if measure reset barrier opaque")
}

// P8.3: what layer 4 finds comes first, wherever it stands.
func TestFaultsOfTokens(t *testing.T) {
	wantFault(t, "^#", api.ErrToken)
	wantFault(t, "x; h q; ^é", api.ErrToken)
	wantFault(t, "OPENQASM 3.0; qreg q[^007];", api.ErrNumber)
	wantFault(t, head+"qreg q[^1000000001];", api.ErrNumber)
	wantFault(t, head+"qreg a[1]; cx a, a; x ^"+strings.Repeat("q", 33)+";", api.ErrWord)
	wantFault(t, head+"include ^\"qelib1.inc;", api.ErrQuote)
	wantFault(t, head+"cx q q q ^-", api.ErrToken)
}

// P8.3: the beginning.
func TestFaultsOfTheHead(t *testing.T) {
	for _, s := range []string{
		"^;", "^2.0;", "^openqasm 2.0;", "^\"OPENQASM\" 2.0;", "^qreg a[1];", "^include \"qelib1.inc\";", "^OPENQASM_ 2.0;",
		"OPENQASM ^", "OPENQASM ^2;", "OPENQASM ^3.0;", "OPENQASM ^2.1;", "OPENQASM ^2.00;", "OPENQASM ^;", "OPENQASM ^\"2.0\";", "OPENQASM ^OPENQASM 2.0;",
		"OPENQASM 2.0^", "OPENQASM 2.0 ^,", "OPENQASM 2.0 ^\";\"", "OPENQASM 2.0 ^qreg a[1];", "OPENQASM 2.0 ^2.0;",
		"OPENQASM 2.0; ^OPENQASM 2.0;", "OPENQASM 2.0; ^;", "OPENQASM 2.0; ^opaque g a;", "OPENQASM 2.0; ^{", "OPENQASM 2.0; ^\"include\"", "OPENQASM 2.0; ^7", "OPENQASM 2.0; ^2.0", "OPENQASM 2.0; ^}",
	} {
		wantFault(t, s, api.ErrSyntax)
	}
}

// P8.3: tokens that may not stand there, in each kind of statement, at each place of it.
func TestFaultsOfSyntax(t *testing.T) {
	for _, s := range []string{
		"include ^;", "include ^qelib1;", `include ^"qelib2.inc";`, `include ^"";`, `include ^"qelib1.inc ";`, `include ^"QELIB1.INC";`, `include "qelib1.inc"^`, `include "qelib1.inc" ^x a;`, `include "qelib1.inc" ^";"`,
		"qreg ^[2];", "qreg ^5[2];", "qreg ^\"e\"[2];", "qreg e^;", "qreg e ^2];", "qreg e ^(2);", "qreg e[^];", "qreg e[^n];", "qreg e[^2.0];", "qreg e[^\"2\"];", "qreg e[2^;", "qreg e[2 ^);", "qreg e[2] ^x a;", "qreg e[2] ^, f[2];", "qreg e[2]^",
		"creg ^;", "creg e[^a];", "creg e[1 ^,", "creg e[1]^",
		"gate ^{", "gate ^2", "gate g ^{ }", "gate g ^;", "gate g ^( ) p { }", "gate g ^2 { }", "gate g p ^;", "gate g p, ^{ }", "gate g p, ^, r { }", "gate g p ^r { }", "gate g p ^[0] { }", "gate g p { ^", "gate g p { ^; }", "gate g p { ^{ } }", "gate g p { ^7 p; }", "gate g p { x ^; }", "gate g p { x p^", "gate g p { x p ^}", "gate g p { x p, ^; }", "gate g p { x p ^[0]; }", "gate g p { x p; ^", "gate g p { x p; } ^;", "gate g p { x p; } ^}", "gate g p { barrier ^; }", "gate g p { barrier p ^}", "gate g p { x p ^p; }", "gate g p ^-> { }", "gate g p { x ^\"p\"; }", "gate g p { x ^1; }",
		"gate g p { ^measure p -> p; }", "gate g p { ^reset p; }", "gate g p { ^if (m[0] == 1) x p; }", "gate g p { ^gate h r { } }", "gate g p { ^qreg e[1]; }", "gate g p { ^include \"qelib1.inc\"; }", "gate g p { ^opaque p; }", "gate g p { ^OPENQASM p; }",
		"if ^m[0] == 1) x a;", "if (^(m[0] == 1) x a;", "if (^0 == 1) x a;", "if (m ^== 1) x a;", "if (m ^(0) == 1) x a;", "if (m[^] == 1) x a;", "if (m[^m] == 1) x a;", "if (m[0 ^== 1) x a;", "if (m[0]^) x a;", "if (m[0] ^1) x a;", "if (m[0] ^-> 1) x a;", "if (m[0] == ^) x a;", "if (m[0] == ^m) x a;", "if (m[0] == ^1.0) x a;", "if (m[0] == 1 ^x a;", "if (m[0] == 1^", "if (m[0] == 1) ^;", "if (m[0] == 1) ^",
		"if (m[0] == 1) ^measure a -> m;", "if (m[0] == 1) ^reset a;", "if (m[0] == 1) ^barrier a;", "if (m[0] == 1) ^if (m[0] == 1) x a;", "if (m[0] == 1) ^gate g p { }", "if (m[0] == 1) ^qreg e[1];", "if (m[0] == 1) ^opaque a;", "if (m[0] == 1) ^7;", "if (m[0] == 1) ^\"x\" a;",
		"x ^;", "x ^", "x ^7;", "x ^[0];", "x ^( ) a;", "x a^", "x a ^b;", "x a, ^;", "x a, ^, b;", "x a ^-> m;", "x a[^];", "x a[^b];", "x a[^0.5];", "x a[0^;", "x a[0] ^[0];", "x a[0] ^b;", "x a[0]^", "x a[0 ^, 1];", "x a ^}", "x ^\"a\";",
		"measure ^;", "measure ^-> m;", "measure ^7 -> m;", "measure a^;", "measure a ^m;", "measure a ^== m;", "measure a ^, b -> m;", "measure a -> ^;", "measure a -> ^0;", "measure a -> m^", "measure a -> m ^, n;", "measure a -> m[^];", "measure a -> m[0 ^;", "measure a -> m[0] ^-> m;", "measure a[0 ^-> m;",
		"reset ^;", "reset a^", "reset a ^, b;", "reset a[^];", "reset a[0] ^-> m;", "reset a ^x b;",
		"barrier ^;", "barrier a^", "barrier a, ^;", "barrier a[^a];", "barrier a ^b;", "barrier a[0] ^-> m;",
	} {
		wantFault(t, ab+s, api.ErrSyntax)
	}
}

// P8.3: a reserved word is no NAME, wherever one is wanted.
func TestFaultsOfReservedWords(t *testing.T) {
	for _, word := range reservedWords() {
		for _, s := range []string{
			"qreg ^W[1];", "creg ^W[1];", "gate ^W p { }", "gate g ^W { }", "gate g p, ^W { }", "gate g p { x ^W; }", "gate g p { barrier p, ^W; }",
			"if (^W[0] == 1) x a;", "if (m[0] == 1) ^W a;", "x ^W;", "x a, ^W;", "cx a[0], ^W[0];", "measure ^W -> m;", "measure a -> ^W;", "reset ^W;", "barrier ^W;", "barrier a, ^W;",
		} {
			wantFault(t, ab+strings.Replace(s, "W", word, 1), api.ErrSyntax)
		}
	}
	for _, word := range []string{"OPENQASM", "opaque"} {
		wantFault(t, ab+"^"+word+" a;", api.ErrSyntax)
	}
}

// P8.3: names of nothing, or of something else, as soon as they are read.
func TestFaultsOfNames(t *testing.T) {
	for _, s := range []string{
		"^h a;", "^X a;", "^a[0];", "^m a;", "^h;", "^h 7 7", "if (m[0] == 1) ^h a;", "if (m[0] == 1) ^a;", "gate g p { } ^p a;", "^q -> q;",
		"x ^e;", "x ^m;", "x ^m[0];", "x ^x;", "x ^e[", "x ^A;", "cx a[0], ^e;", "cx a[0], ^n[9];", "gate g p { } g ^p;", "gate g p { } x ^g;",
		"if (^a[0] == 1) x a;", "if (^e[0] == 1) x a;", "if (^x", "if (^e 7",
		"measure ^m -> m;", "measure ^e -> m;", "measure a -> ^a;", "measure a -> ^e;", "measure a -> ^b[9];", "measure ^n[9] -> e;", "reset ^m;", "reset ^e;", "reset ^x;", "barrier ^m;", "barrier a, ^n[0];", "barrier a, ^e 7",
		"gate g p { x ^r; }", "gate g p { x ^a; }", "gate g p { x p, ^r; }", "gate g p { x ^g; }", "gate g p { x ^x; }", "gate g p { barrier ^a; }", "gate g p { barrier p, ^r; }", "gate g p { x p; cx p, ^r; }",
		"gate g p { ^h p; }", "gate g p { ^g p; }", "gate g p { ^p p; }", "gate g p { ^a p; }", "gate g p { x p; ^k p; } gate k p { }", "gate g p { ^h", "gate g p { ^h r; }",
		"^g a; gate g p { }", "x ^f; qreg f[1];", "gate g p { } gate h r { g ^p; }", "gate g p { } gate h r { x ^p; }",
	} {
		wantFault(t, ab+s, api.ErrUnknown)
	}
}

// P8.3: names that stand for something already.
func TestFaultsOfNamesTwice(t *testing.T) {
	for _, s := range []string{
		"qreg ^a[1];", "qreg ^m[1];", "creg ^a[1];", "creg ^m[1];", "qreg ^x[1];", "creg ^cswap[1];", "qreg ^id[0];", "qreg ^a 7", "creg ^b",
		"gate ^a p { }", "gate ^m p { }", "gate ^x p { }", "gate ^swap p, r { }", "gate ^a ;", "gate g p { } gate ^g p { }", "gate g p { } qreg ^g[1];", "gate g p { } creg ^g[99];", "qreg e[1]; gate ^e p { }",
		"gate g p, ^p { }", "gate g p, r, ^p { }", "gate g p, r, ^r, p { }", "gate g p, ^p ;", "gate g a, b, ^a { }", "gate g g, ^g { }",
	} {
		wantFault(t, ab+s, api.ErrTwice)
	}
	for _, line := range gateLines()[1:] {
		for _, s := range []string{"qreg ^W[1];", "creg ^W[1];", "gate ^W p { }"} {
			wantFault(t, ab+strings.Replace(s, "W", line.name, 1), api.ErrTwice)
		}
	}
}

// P8.3: numbers that are too great there, or 0.
func TestFaultsOfNumbers(t *testing.T) {
	for _, s := range []string{
		"qreg e[^0];", "creg e[^0];", "qreg e[^57];", "creg e[^60];", "qreg e[^65];", "qreg e[^1000000000];", "creg e[^1000000000];", "qreg e[56]; qreg f[^1];", "creg e[59]; creg f[^1];", "qreg e[56]; qreg f[^0];", "qreg e[^0 7", "qreg e[^57 ;",
		"x a[^3];", "x d[^2];", "x a[^1000000000];", "x a[^3 ;", "cx a[0], b[^3];", "cx a[0], d[^2] d", "measure a[^3] -> m[9];", "measure a[0] -> m[^3];", "measure a[0] -> n[^2];", "measure a -> n[^2];", "reset d[^2];", "barrier a, d[^2];", "barrier a[^3], e;",
		"if (m[^3] == 1) x a;", "if (n[^2] == 7) x a;", "if (m[^3 == 1) x a;", "if (m[0] == ^2) x a;", "if (m[0] == ^1000000000) x a;", "if (m[0] == ^2 x a;", "if (n[1] == ^2) h e;",
	} {
		wantFault(t, ab+s, api.ErrRange)
	}
	wantFault(t, head+"qreg q[^65];", api.ErrRange)
	wantFault(t, head+"creg q[^65];", api.ErrRange)
	wantParse(t, ab+"qreg e[56]; creg f[59];", of(64, 64))
}

// P8.3: what a gate, or a measurement, does not take: at its first token, once its end has been read.
func TestFaultsOfCalls(t *testing.T) {
	for _, s := range []string{
		"^x a, b;", "^x a[0], a[1];", "^cx a;", "^cx a[0];", "^cx a, b, d;", "^ccx a, b;", "^cswap a[0], a[1];", "^id a, a, a;",
		"^cx a, d;", "^cx d, a;", "^ccx a, b, d;", "^ccx a[0], b, d;", "^ccx d, b[0], a;",
		"^cx a, a;", "^cx a[1], a[1];", "^cx a[0], a;", "^cx a[2], a;", "^cx a, a[1];", "^ccx a, b, a;", "^ccx a, b, a[2];", "^ccx a[0], a[1], a[0];", "^ccx a[0], b[1], b;", "^swap a, a;", "^cz d[1], d;",
		"if (m[0] == 1) ^cx a;", "if (m[0] == 1) ^cx a[0], a[0];", "if (m[0] == 1) ^x a, d;", "if (m[0] == 1) ^cx a, d;",
		"^measure a -> n;", "^measure d -> m;", "^measure a[0] -> m;", "^measure a -> m[0];", "^measure d[0] -> n;",
		"qreg one[1]; ^measure one -> m[0];", "creg one[1]; ^measure a[0] -> one;", "qreg one[1]; ^measure one -> n;",
		"^barrier a, a;", "^barrier a[0], a[0];", "^barrier a, a[2];", "^barrier a[0], b, a;", "^barrier d, b[1], d[1];",
		"gate g p { } ^g a, b;", "gate g p, r { } ^g a;", "gate g p, r { } ^g a[0], a[0];", "gate g p, r { } ^g a, a;", "gate g p, r { x p; } ^g a[1], a;", "gate g p, r { } ^g a, d;", "gate g p, r { } if (m[0] == 0) ^g a, d;",
		"gate g p { ^cx p; }", "gate g p, r { ^x p, r; }", "gate g p { ^cx p, p; }", "gate g p, r { ^ccx p, r, p; }", "gate g p { ^barrier p, p; }", "gate g p, r { barrier p; ^barrier r, p, r; }", "gate g p, r { } gate h p, r { ^g p; }", "gate g p, r { } gate h p, r { ^g r, r; }", "gate g p { } gate h p, r { g p; ^g p, r; }",
	} {
		wantFault(t, ab+s, api.ErrCall)
		wantFault(t, ab+s+" h 7 }", api.ErrCall)
	}
}

// P8.3: what is wrong with a token of a call comes ahead of what is wrong with the call.
func TestFaultsAheadOfCalls(t *testing.T) {
	wantFault(t, ab+"x a, b^", api.ErrSyntax)
	wantFault(t, ab+"cx a, a ^x a;", api.ErrSyntax)
	wantFault(t, ab+"x a, b, ^e;", api.ErrUnknown)
	wantFault(t, ab+"cx a[0], a[0], a[^3];", api.ErrRange)
	wantFault(t, ab+"measure a -> n ^", api.ErrSyntax)
	wantFault(t, ab+"measure d -> m[^7];", api.ErrRange)
	wantFault(t, ab+"barrier a, a, ^m;", api.ErrUnknown)
	wantFault(t, ab+"barrier a, a ^}", api.ErrSyntax)
	wantFault(t, ab+"gate g p { cx p, p, ^r; }", api.ErrUnknown)
	wantFault(t, ab+"gate g p { cx p, p ^}", api.ErrSyntax)
	wantFault(t, ab+"gate g p { barrier p, p, ^if; }", api.ErrSyntax)
	wantFault(t, ab+"if (m[0] == 1) cx a, a[^3];", api.ErrRange)
}

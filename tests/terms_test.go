package tests

import (
	"math"
	"math/rand"
	"strings"
	"testing"

	"loop.example/depkernel/impl"
)

// Promise 1: terms are read back from their texts, and numbers from their numerals.

type termCase struct {
	term  impl.Term
	text  string
	nodes int
	depth int
}

func termCases() []termCase {
	v, n, z := variable, nat(), zero()
	return []termCase{
		{v(0), "#0", 1, 1},
		{v(7), "#7", 1, 1},
		{v(10), "#10", 1, 1},
		{v(20), "#20", 1, 1},
		{sort(0), "*0", 1, 1},
		{sort(3), "*3", 1, 1},
		{mk(impl.TermPi, n, v(0)), "(N>#0)", 3, 2},
		{mk(impl.TermLam, n, v(0)), "[N]#0", 3, 2},
		{mk(impl.TermApp, v(1), v(0)), "(#1 #0)", 3, 2},
		{n, "N", 1, 1},
		{z, "0", 1, 1},
		{mk(impl.TermSucc, z), "+0", 2, 2},
		{mk(impl.TermElim, v(3), v(2), v(1), v(0)), "<#3,#2,#1,#0>", 5, 2},
		{mk(impl.TermId, n, v(1), z), "{N,#1,0}", 4, 2},
		{mk(impl.TermRefl, z), "!0", 2, 2},
		{mk(impl.TermMove, v(2), v(1), z), "@<#2,#1,0>", 4, 2},
		{mk(impl.TermSigma, n, v(0)), "(N*#0)", 3, 2},
		{mk(impl.TermPair, v(2), z, n), "|#2,0,N|", 4, 2},
		{mk(impl.TermFst, v(1)), "^#1", 2, 2},
		{mk(impl.TermSnd, v(1)), "_#1", 2, 2},
		{mk(impl.TermApp, mk(impl.TermLam, n, mk(impl.TermSucc, v(0))), succs(2, z)), "([N]+#0 ++0)", 8, 4},
		{mk(impl.TermSigma, sort(0), sort(1)), "(*0**1)", 3, 2},
		{mk(impl.TermPair, mk(impl.TermPair, n, n, n), mk(impl.TermPair, z, z, z), n), "||N,N,N|,|0,0,0|,N|", 10, 3},
		{mk(impl.TermLam, mk(impl.TermLam, n, n), mk(impl.TermLam, z, z)), "[[N]N][0]0", 7, 3},
		{mk(impl.TermMove, mk(impl.TermElim, n, n, n, n), z, z), "@<<N,N,N,N>,0,0>", 8, 3},
		{mk(impl.TermFst, mk(impl.TermSnd, mk(impl.TermRefl, mk(impl.TermSucc, v(12))))), "^_!+#12", 5, 5},
		{mk(impl.TermId, sort(2), mk(impl.TermPi, n, n), mk(impl.TermSigma, n, n)), "{*2,(N>N),(N*N)}", 8, 3},
	}
}

func TestTermsAndTexts(t *testing.T) {
	for _, c := range termCases() {
		if !impl.TermValid(c.term) {
			t.Errorf("TermValid(%s) = false", c.text)
		}
		if got := impl.FormatTerm(c.term); got != c.text {
			t.Errorf("FormatTerm = %q, want %q", got, c.text)
		}
		if got, ok := impl.ParseTerm(c.text); !ok || !equalTerm(got, c.term) {
			t.Errorf("ParseTerm(%q) = %v, %v", c.text, got, ok)
		}
		if got := impl.CountNodes(c.term); got != c.nodes {
			t.Errorf("CountNodes(%s) = %d, want %d", c.text, got, c.nodes)
		}
		if got := impl.TermDepth(c.term); got != c.depth {
			t.Errorf("TermDepth(%s) = %d, want %d", c.text, got, c.depth)
		}
	}
}

// randomTerm builds a term of at most the given depth; its leaves may be
// variables without a binder.
func randomTerm(r *rand.Rand, depth int) impl.Term {
	kind := 1 + r.Intn(impl.TermSnd)
	for depth == 1 && operandsOf(kind) > 0 {
		kind = 1 + r.Intn(impl.TermSnd)
	}
	x := mk(kind)
	switch kind {
	case impl.TermVar:
		x.N = r.Intn(impl.MaxIndex + 1)
	case impl.TermSort:
		x.N = r.Intn(impl.MaxSort + 1)
	}
	for range operandsOf(kind) {
		x.Kids = append(x.Kids, randomTerm(r, depth-1))
	}
	return x
}

func TestRandomTermsAreReadBack(t *testing.T) {
	r := rand.New(rand.NewSource(1))
	seen := 0
	for range 20000 {
		x := randomTerm(r, 1+r.Intn(6))
		text := textOf(x)
		if len(text) > 300 {
			continue
		}
		seen++
		if got := impl.FormatTerm(x); got != text {
			t.Fatalf("FormatTerm = %q, want %q", got, text)
		}
		if got, ok := impl.ParseTerm(text); !ok || !equalTerm(got, x) || !impl.TermSame(got, x) {
			t.Fatalf("ParseTerm(%q) = %v, %v", text, got, ok)
		}
	}
	if seen < 10000 {
		t.Errorf("only %d terms were tried", seen)
	}
}

// checkTerm compares what the functions say of a term with valid, and of its
// text with readable.
func checkTerm(t *testing.T, what string, x impl.Term, valid bool) {
	t.Helper()
	text := textOf(x)
	if impl.TermValid(x) != valid {
		t.Errorf("%s: TermValid = %v", what, !valid)
	}
	if got := impl.FormatTerm(x); valid && got != text || !valid && got != "" {
		t.Errorf("%s: FormatTerm = %q", what, got)
	}
	got, ok := impl.ParseTerm(text)
	if ok != valid || valid && !equalTerm(got, x) || !valid && !isZeroTerm(got) {
		t.Errorf("%s: ParseTerm = %v, %v", what, got, ok)
	}
	if (impl.CountNodes(x) > 0) != valid || (impl.TermDepth(x) > 0) != valid {
		t.Errorf("%s: CountNodes = %d, TermDepth = %d", what, impl.CountNodes(x), impl.TermDepth(x))
	}
}

func TestLimitsOfN(t *testing.T) {
	for n := -3; n <= 25; n++ {
		checkTerm(t, "variable", variable(n), n >= 0 && n <= 20)
		checkTerm(t, "sort", sort(n), n >= 0 && n <= 3)
	}
	for _, n := range []int{math.MinInt, -21, 21, 100, math.MaxInt} {
		checkTerm(t, "variable far off", variable(n), false)
		checkTerm(t, "sort far off", sort(n), false)
	}
	everyPlace(func(kind, index int) {
		checkTerm(t, "variable 20 inside", around(kind, index, variable(20)), true)
		checkTerm(t, "variable 21 inside", around(kind, index, variable(21)), false)
		checkTerm(t, "sort 3 inside", around(kind, index, sort(3)), true)
		checkTerm(t, "sort 4 inside", around(kind, index, sort(4)), false)
	})
}

func TestVariableWithoutBinder(t *testing.T) {
	for _, text := range []string{"#0", "#20", "[N]#1", "[N]#20", "(#3>#7)", "(N*#5)", "<#0,#1,#2,#20>"} {
		if x := parse(t, text); !impl.TermValid(x) || impl.FormatTerm(x) != text {
			t.Errorf("%q is not read back", text)
		}
	}
}

func TestLimitOfNodes(t *testing.T) {
	for _, nodes := range []int{1, 2, 3, 399, 400} {
		x := sized(nodes)
		checkTerm(t, "nodes within the limit", x, true)
		if got := impl.CountNodes(x); got != nodes {
			t.Errorf("CountNodes = %d, want %d", got, nodes)
		}
	}
	for _, nodes := range []int{401, 402, 500, 100000} {
		checkTerm(t, "nodes past the limit", sized(nodes), false)
	}
	everyPlace(func(kind, index int) {
		rest := 400 - operandsOf(kind)
		checkTerm(t, "400 nodes, most in one operand", around(kind, index, sized(rest)), true)
		checkTerm(t, "401 nodes, most in one operand", around(kind, index, sized(rest+1)), false)
	})
}

func TestLimitOfDepth(t *testing.T) {
	if got := impl.TermDepth(succs(29, zero())); got != 30 {
		t.Errorf("TermDepth = %d, want 30", got)
	}
	everyPlace(func(kind, index int) {
		x := nat()
		for range 29 {
			x = around(kind, index, x)
		}
		checkTerm(t, "depth 30", x, true)
		if got := impl.TermDepth(x); got != 30 {
			t.Errorf("TermDepth = %d, want 30", got)
		}
		checkTerm(t, "depth 31", around(kind, index, x), false)
		checkTerm(t, "depth 31, at the bottom", around(kind, index, around(impl.TermFst, 0, succs(28, zero()))), false)
	})
	if got := impl.TermDepth(mk(impl.TermId, succs(2, zero()), succs(5, zero()), nat())); got != 7 {
		t.Errorf("TermDepth = %d, want 7, which is that of the deepest operand", got)
	}
}

func checkInvalid(t *testing.T, what string, x impl.Term) {
	t.Helper()
	if impl.TermValid(x) || impl.FormatTerm(x) != "" || impl.CountNodes(x) != 0 || impl.TermDepth(x) != 0 {
		t.Errorf("%s: %v is accepted", what, x)
	}
	if n, ok := impl.NumeralValue(x); n != 0 || ok {
		t.Errorf("%s: NumeralValue = %d, %v", what, n, ok)
	}
}

// checkInvalidAnywhere also puts the term below each kind of node.
func checkInvalidAnywhere(t *testing.T, what string, x impl.Term) {
	t.Helper()
	checkInvalid(t, what, x)
	everyPlace(func(kind, index int) {
		checkInvalid(t, what+" below a node", around(kind, index, x))
	})
}

func TestInvalidNodes(t *testing.T) {
	for _, kind := range []int{math.MinInt, -1, 0, 17, 18, 100, math.MaxInt} {
		checkInvalidAnywhere(t, "unknown kind", mk(kind))
		checkInvalidAnywhere(t, "unknown kind with an operand", mk(kind, nat()))
	}
	for kind := impl.TermVar; kind <= impl.TermSnd; kind++ {
		kids := make([]impl.Term, operandsOf(kind)+1)
		for i := range kids {
			kids[i] = nat()
		}
		right := operandsOf(kind)
		if !impl.TermValid(mk(kind, kids[:right]...)) {
			t.Errorf("kind %d with %d operands is rejected", kind, right)
		}
		checkInvalidAnywhere(t, "an operand too many", mk(kind, kids...))
		if right > 0 {
			checkInvalidAnywhere(t, "an operand too few", mk(kind, kids[:right-1]...))
			checkInvalidAnywhere(t, "no operand", mk(kind))
		}
		for _, n := range []int{math.MinInt, -1, 1, 2, 20, math.MaxInt} {
			if kind == impl.TermVar || kind == impl.TermSort {
				continue
			}
			x := mk(kind, kids[:right]...)
			x.N = n
			checkInvalidAnywhere(t, "a wrong N", x)
		}
	}
	checkInvalid(t, "the zero value", impl.Term{})
}

func TestTextsThatAreAlmostTerms(t *testing.T) {
	texts := []string{
		"", " ", "\n", "\x00", "#", "*", "+", "!", "^", "_", "(", "[", "<", "{", "|", "@", "@<",
		"#21", "#-1", "#+1", "#00", "#01", "#020", "# 1", "#1 ", " #1", "#1\n", "#a", "#x1", "#200", "#99999999999999999999", "#18446744073709551617",
		"*4", "*00", "*03", "*-1", "*30", "*n", "n", "1", "00", "NN", "N N", "N0", "0N", "S0",
		"(N>N", "(N>)", "(>N)", "N>N", "(N)", "()", "(N>N))", "((N>N)", "(N->N)", "(N >N)", "(N> N)", "(N+N)", "(N,N)", "(N>N>N)",
		"(N*N", "(N*)", "(*N)", "(N**N)", "(N*N*N)", "(N N", "(N N N)", "(N  N)", "( N N)", "(N N )", "(N\tN)",
		"[N]", "[]N", "[N", "N]N", "[N[N", "[N]]N", "[N] N", "[N]NN", "[N,N]",
		"++", "+", "0+", "+00", "+ 0", "+-0", "!!", "N!", "^^", "_", "#0^",
		"<N,0,0>", "<N,0,0,0,0>", "<N,0,0,0", "<N,0,0,0,>", "<,,,>", "<>", "<N 0 0 0>", "<N, 0,0,0>", "N,0,0,0>",
		"{N,0}", "{N,0,0,0}", "{N,0,0", "{N,0,0)", "{}", "{N;0;0}", "(N,0,0}",
		"@N", "@<N,N>", "@<N,N,N,N>", "@<N,N,N", "@(N,N,N)", "@ <N,N,N>", "@<N,N,N>>", "<N,N,N>",
		"|N,0|", "|N,0,0,0|", "|N,0,0", "|N,0,0||", "||", "|||", "|N|0|0|",
		"\u00b2", "#\u0661", "\uff10", "(N\u00a0N)", "\xff", "N\x00", "\x00N",
	}
	for _, text := range texts {
		if got, ok := impl.ParseTerm(text); ok || !isZeroTerm(got) {
			t.Errorf("ParseTerm(%q) = %v, %v", text, got, ok)
		}
	}
}

// Every text that differs in one byte from that of a term is either that of
// the term that is returned, or is rejected.
func TestTextsChangedInOneByte(t *testing.T) {
	accepted := 0
	check := func(text string) {
		got, ok := impl.ParseTerm(text)
		if ok && (textOf(got) != text || !impl.TermValid(got)) || !ok && !isZeroTerm(got) {
			t.Errorf("ParseTerm(%q) = %v, %v", text, got, ok)
		}
		if ok {
			accepted++
		}
	}
	for _, c := range termCases() {
		for i := range len(c.text) + 1 {
			for _, b := range []byte("#*()[]<>{}|@^_!+,N0123456789 \n-a\xff") {
				check(c.text[:i] + string([]byte{b}) + c.text[i:])
				if i < len(c.text) {
					check(c.text[:i] + string([]byte{b}) + c.text[i+1:])
				}
			}
			if i < len(c.text) {
				check(c.text[:i] + c.text[i+1:])
			}
		}
	}
	if accepted == 0 {
		t.Error("no changed text was that of a term")
	}
}

func TestLongTexts(t *testing.T) {
	for _, part := range []string{"+", "!", "^", "(", "[", "{", "<", "@<", "|", "#", "*", "N", "0", "[N]", "(N N)", "#0", "(N>"} {
		if _, ok := impl.ParseTerm(strings.Repeat(part, 1000000)); ok {
			t.Errorf("a million times %q is accepted", part)
		}
	}
	for _, text := range []string{"#" + strings.Repeat("0", 1000000), "*" + strings.Repeat("9", 1000000)} {
		if _, ok := impl.ParseTerm(text); ok {
			t.Error("a million digits are accepted")
		}
	}
}

func TestTermSameOfValidTerms(t *testing.T) {
	cases := termCases()
	for i, a := range cases {
		for j, b := range cases {
			if got := impl.TermSame(a.term, copyTerm(b.term)); got != (i == j) {
				t.Errorf("TermSame(%s, %s) = %v", a.text, b.text, got)
			}
		}
	}
	for _, pair := range [][2]string{
		{"(N>N)", "(N*N)"}, {"(N>N)", "[N]N"}, {"(N N)", "(N>N)"}, {"^#0", "_#0"}, {"+#0", "!#0"}, {"#0", "*0"}, {"N", "0"}, {"{N,0,0}", "|N,0,0|"}, {"{N,0,0}", "@<N,0,0>"},
		{"#0", "#1"}, {"*0", "*1"}, {"(N #0)", "(N #1)"}, {"(#0 N)", "(#1 N)"}, {"<N,0,N,0>", "<N,0,N,+0>"}, {"<N,0,N,0>", "<N,0,#0,0>"},
		{"+0", "++0"}, {"0", "+0"}, {"[N][N]#0", "[N][N]#1"},
	} {
		a, b := parse(t, pair[0]), parse(t, pair[1])
		if impl.TermSame(a, b) || impl.TermSame(b, a) {
			t.Errorf("TermSame(%s, %s) = true", pair[0], pair[1])
		}
	}
	if !impl.TermSame(impl.Term{Kind: impl.TermNat, Kids: []impl.Term{}}, nat()) {
		t.Error("an empty list of operands is not equal to none")
	}
	if !impl.TermSame(sized(400), sized(400)) || impl.TermSame(sized(400), sized(399)) {
		t.Error("TermSame is wrong for large terms")
	}
}

func TestTermSameOfInvalidTerms(t *testing.T) {
	list := []impl.Term{
		{}, mk(17), mk(-1), variable(21), variable(-1), sort(4), {Kind: impl.TermNat, N: 1},
		mk(impl.TermSucc), mk(impl.TermSucc, zero(), zero()), mk(impl.TermNat, nat()), mk(impl.TermNat, mk(99)), mk(17, nat()), mk(17, zero()),
		mk(0, nat(), zero()), mk(0, zero(), nat()), succs(30, zero()), succs(31, zero()), sized(401), sized(402),
	}
	for i, a := range list {
		for j, b := range list {
			if got := impl.TermSame(a, copyTerm(b)); got != (i == j) {
				t.Errorf("TermSame(%v, %v) = %v", a, b, got)
			}
		}
		if impl.TermSame(a, nat()) || impl.TermSame(nat(), a) {
			t.Errorf("TermSame(%v, N) = true", a)
		}
		if again := (impl.Term{Kind: a.Kind, N: a.N, Kids: append([]impl.Term{}, a.Kids...)}); !impl.TermSame(a, again) {
			t.Errorf("TermSame of %v and a copy = false", a)
		}
	}
}

func TestTermSameOfDeepTerms(t *testing.T) {
	const depth = 1000000
	a, b, c := succs(depth, zero()), succs(depth, zero()), succs(depth, nat())
	if !impl.TermSame(a, b) || impl.TermSame(a, c) || impl.TermSame(a, a.Kids[0]) {
		t.Error("TermSame is wrong for very deep terms")
	}
	if impl.TermSame(a, zero()) || impl.TermSame(succs(3, zero()), a) {
		t.Error("a very deep term is equal to a small one")
	}
	checkInvalid(t, "a very deep term", impl.Term{Kind: impl.TermSucc, Kids: a.Kids})
}

// doubled has 2 to the power of levels leaves in little memory.
func doubled(levels int, leaf impl.Term) impl.Term {
	for range levels {
		leaf = mk(impl.TermApp, leaf, leaf)
	}
	return leaf
}

// ring contains itself after the given number of nodes.
func ring(nodes int, kind int) impl.Term {
	first := mk(kind, nat())
	last := first
	for range nodes - 1 {
		last.Kids[0] = mk(kind, nat())
		last = last.Kids[0]
	}
	last.Kids[0] = first
	return first
}

func TestTermsThatShareTheirMemory(t *testing.T) {
	a, b, c := doubled(100, nat()), doubled(100, nat()), doubled(100, zero())
	if !impl.TermSame(a, b) || !impl.TermSame(a, a) || impl.TermSame(a, c) || impl.TermSame(a, doubled(99, nat())) {
		t.Error("TermSame is wrong for terms with shared parts")
	}
	if impl.TermValid(a) || impl.FormatTerm(a) != "" || impl.CountNodes(a) != 0 || impl.TermDepth(a) != 0 {
		t.Error("a term with too many nodes is accepted")
	}
	if x := doubled(7, nat()); impl.CountNodes(x) != 255 || !impl.TermValid(x) || impl.TermValid(doubled(8, nat())) {
		t.Error("shared parts are not counted as often as they occur")
	}
}

func TestTermsThatContainThemselves(t *testing.T) {
	a, b, c := ring(2, impl.TermSucc), ring(3, impl.TermSucc), ring(2, impl.TermFst)
	if !impl.TermSame(a, a) || !impl.TermSame(a, b) || !impl.TermSame(b, a) || impl.TermSame(a, c) {
		t.Error("TermSame is wrong for terms that contain themselves")
	}
	if impl.TermSame(a, succs(50, zero())) || impl.TermSame(a, zero()) || impl.TermSame(zero(), a) {
		t.Error("a term that contains itself is equal to one that does not")
	}
	if !impl.TermSame(ring(10007, impl.TermSucc), ring(10009, impl.TermSucc)) {
		t.Error("TermSame is wrong for large terms that contain themselves")
	}
	for _, x := range []impl.Term{a, b, c} {
		if n, ok := impl.NumeralValue(x); impl.TermValid(x) || impl.FormatTerm(x) != "" || impl.CountNodes(x) != 0 || impl.TermDepth(x) != 0 || n != 0 || ok {
			t.Error("a term that contains itself is accepted")
		}
	}
}

func TestNumerals(t *testing.T) {
	for n := 0; n <= 20; n++ {
		x, ok := impl.Numeral(n)
		if !ok || !equalTerm(x, succs(n, zero())) || !impl.TermValid(x) {
			t.Errorf("Numeral(%d) = %v, %v", n, x, ok)
		}
		if text := strings.Repeat("+", n) + "0"; impl.FormatTerm(x) != text || !equalTerm(parse(t, text), x) {
			t.Errorf("the text of %d is %q", n, impl.FormatTerm(x))
		}
		if value, ok := impl.NumeralValue(x); !ok || value != n {
			t.Errorf("NumeralValue of %d = %d, %v", n, value, ok)
		}
	}
	for _, n := range []int{math.MinInt, -1, 21, 22, 29, 30, 1000, math.MaxInt} {
		if x, ok := impl.Numeral(n); ok || !isZeroTerm(x) {
			t.Errorf("Numeral(%d) = %v, %v", n, x, ok)
		}
	}
}

func TestNumeralValueOfOtherTerms(t *testing.T) {
	wrongN := zero()
	wrongN.N = 1
	wrongSucc := succs(1, zero())
	wrongSucc.N = 1
	list := []impl.Term{
		succs(21, zero()), succs(22, zero()), succs(29, zero()), succs(30, zero()), succs(1000, zero()),
		nat(), variable(0), sort(0), succs(3, nat()), succs(1, variable(0)), mk(impl.TermRefl, zero()), mk(impl.TermFst, zero()),
		{}, wrongN, wrongSucc, succs(2, wrongSucc), succs(2, wrongN), mk(impl.TermZero, zero()), succs(2, mk(impl.TermZero, zero())),
		mk(impl.TermSucc), mk(impl.TermSucc, zero(), zero()), succs(2, mk(impl.TermSucc)), succs(2, mk(17)), ring(1, impl.TermSucc),
		mk(impl.TermApp, mk(impl.TermLam, nat(), variable(0)), zero()),
	}
	for i, x := range list {
		if n, ok := impl.NumeralValue(x); n != 0 || ok {
			t.Errorf("NumeralValue of the term %d of the list = %d, %v", i, n, ok)
		}
	}
	if n, ok := impl.NumeralValue(impl.Term{Kind: impl.TermZero, Kids: []impl.Term{}}); n != 0 || !ok {
		t.Error("a zero with an empty list of operands is not a numeral")
	}
	if x := succs(29, zero()); !impl.TermValid(x) || impl.TermDepth(x) != 30 {
		t.Error("the deepest number is not a term")
	}
}

func TestTermsAreNotChangedOrShared(t *testing.T) {
	for _, c := range termCases() {
		x, again := copyTerm(c.term), parse(t, c.text)
		impl.TermValid(x)
		impl.TermSame(x, again)
		impl.FormatTerm(x)
		impl.CountNodes(x)
		impl.TermDepth(x)
		impl.NumeralValue(x)
		if !equalTerm(x, c.term) || !equalTerm(again, c.term) {
			t.Errorf("%s is changed", c.text)
		}
		overwrite(again)
		if third := parse(t, c.text); !equalTerm(third, c.term) {
			t.Errorf("results for %s share memory", c.text)
		}
	}
	a, _ := impl.Numeral(20)
	overwrite(a)
	if b, _ := impl.Numeral(20); !equalTerm(b, succs(20, zero())) {
		t.Error("numerals share memory")
	}
	pair := parse(t, "(++0 ++0)")
	overwrite(pair.Kids[0])
	if !equalTerm(pair.Kids[1], succs(2, zero())) {
		t.Error("operands of one result share memory")
	}
}

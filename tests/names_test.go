package tests

import (
	"bytes"
	"math/rand"
	"strconv"
	"strings"
	"testing"

	"loop.example/depkernel/impl"
)

// Promise 6: a term is read back from its named text, whatever the names of its binders.

const alphabet = "abcdefghijklmnopqrstuvwxyz"

// namedText writes a term with names, the last of which is that of the
// variable 0, and chooses a name for each binder in the order of the text. It
// also returns the term for which the text stands: it is another one where a
// binder has the name of a variable that belongs further outside.
func namedText(t impl.Term, names string, choose func(names string) byte) (string, impl.Term) {
	form := []string{"", "v", "*n", "(x:a>b)", "[x:a]b", "(a a)", "N", "0", "+a", "<a,a,a,a>", "{a,a,a}", "!a", "@<a,a,a>", "(x:a*b)", "|a,a,a|", "^a", "_a"}[t.Kind]
	var out strings.Builder
	read := impl.Term{Kind: t.Kind, N: t.N}
	inside := names
	for _, b := range []byte(form) {
		switch b {
		case 'v':
			name := names[len(names)-1-t.N]
			out.WriteByte(name)
			read.N = len(names) - 1 - strings.LastIndexByte(names, name)
		case 'n':
			out.WriteString(strconv.Itoa(t.N))
		case 'x':
			inside = names + string([]byte{choose(names)})
			out.WriteByte(inside[len(names)])
		case 'a', 'b':
			around := names
			if b == 'b' {
				around = inside
			}
			text, kid := namedText(t.Kids[len(read.Kids)], around, choose)
			out.WriteString(text)
			read.Kids = append(read.Kids, kid)
		default:
			out.WriteByte(b)
		}
	}
	return out.String(), read
}

func firstUnused(names string) byte {
	for _, name := range []byte(alphabet) {
		if strings.IndexByte(names, name) < 0 {
			return name
		}
	}
	return '?'
}

func wantNamesValid(names string) bool {
	for i, name := range []byte(names) {
		if !strings.Contains(alphabet, string([]byte{name})) || strings.Count(names[:i], string([]byte{name})) > 0 {
			return false
		}
	}
	return len(names) <= 20
}

func wantMostBinders(t impl.Term) int {
	most := 0
	for i, kid := range t.Kids {
		n := wantMostBinders(kid)
		if binds(t.Kind, i) {
			n++
		}
		most = max(most, n)
	}
	return most
}

// wantShown needs t to be valid.
func wantShown(t impl.Term, names string) string {
	for _, n := range freeNumbers(t) {
		if n >= len(names) {
			return ""
		}
	}
	if !wantNamesValid(names) || len(names)+wantMostBinders(t) > 20 {
		return ""
	}
	text, _ := namedText(t, names, firstUnused)
	return text
}

func checkShown(t *testing.T, x impl.Term, names, want string) {
	t.Helper()
	if got := impl.ShowNamed(x, names); got != want {
		t.Errorf("ShowNamed of %s and %q = %q, want %q", textOf(x), names, got, want)
	}
}

// checkRead wants the term, or false for the zero value.
func checkRead(t *testing.T, text, names string, want impl.Term) {
	t.Helper()
	got, ok := impl.ParseNamed(text, names)
	checkTermResult(t, "ParseNamed of "+strconv.Quote(text)+" and "+strconv.Quote(names), got, ok, want, !isZeroTerm(want))
}

// checkReadAs wants the term with the text without names, or false for the
// empty text.
func checkReadAs(t *testing.T, text, names, want string) {
	t.Helper()
	if want == "" {
		checkRead(t, text, names, impl.Term{})
	} else {
		checkRead(t, text, names, parse(t, want))
	}
}

type namedCase struct {
	text  string // without names
	names string
	named string
}

func namedCases() []namedCase {
	return []namedCase{
		{"#0", "x", "x"},
		{"#0", "xyz", "z"},
		{"#2", "xyz", "x"},
		{"*0", "", "*0"},
		{"*3", "x", "*3"},
		{"(N>#0)", "", "(a:N>a)"},
		{"(#0>(#1>#1))", "x", "(a:x>(b:x>a))"},
		{"[N]#0", "", "[a:N]a"},
		{"[#1][#1](#1 #2)", "yx", "[a:y][b:x](a x)"},
		{"(#1 #0)", "fx", "(f x)"},
		{"N", "", "N"},
		{"0", "", "0"},
		{"+#0", "n", "+n"},
		{"+++0", "", "+++0"},
		{"<#3,#2,#1,#0>", "pzsn", "<p,z,s,n>"},
		{"<[N]N,#0,[N][N]+#0,#0>", "x", "<[a:N]N,x,[a:N][b:N]+b,x>"},
		{"{N,#1,0}", "pq", "{N,p,0}"},
		{"!#0", "a", "!a"},
		{"@<#2,#1,#0>", "pea", "@<p,e,a>"},
		{"@<[N]{N,#0,#1},#1,!#0>", "ea", "@<[b:N]{N,b,a},e,!a>"},
		{"(N*#0)", "", "(a:N*a)"},
		{"(*0**1)", "", "(a:*0**1)"},
		{"(N*(N>{N,#1,#0}))", "", "(a:N*(b:N>{N,a,b}))"},
		{"|#2,#0,#1|", "tab", "|t,b,a|"},
		{"^#0", "p", "^p"},
		{"_^_#1", "pq", "_^_p"},
		{"([N]+#0 ++0)", "", "([a:N]+a ++0)"},
		{"[N](#0 [*0](#1 (#2 #0)))", "x", "[a:N](a [b:*0](a (x b)))"},
		{"[N][N][N][N][N](((#4 #3) #2) (#1 #0))", "", "[a:N][b:N][c:N][d:N][e:N](((a b) c) (d e))"},
	}
}

func TestTermsAndNamedTexts(t *testing.T) {
	kinds := map[int]bool{}
	for _, c := range namedCases() {
		x := parse(t, c.text)
		kinds[x.Kind] = true
		checkShown(t, x, c.names, c.named)
		checkRead(t, c.named, c.names, x)
		if want := wantShown(x, c.names); want != c.named {
			t.Errorf("the check wants %q for %s", want, c.text)
		}
		if !impl.NamedSame(c.named, c.named, c.names) {
			t.Errorf("%q is not the same as itself", c.named)
		}
		if got, ok := impl.ParseTerm(c.named); strings.ContainsAny(c.named, alphabet) && (ok || !isZeroTerm(got)) {
			t.Errorf("ParseTerm accepts %q, which has names", c.named)
		}
	}
	if len(kinds) != impl.TermSnd {
		t.Errorf("the terms are of %d kinds", len(kinds))
	}
}

// A binder is in force for one operand of its node only.
func TestNamesInEveryOperand(t *testing.T) {
	for _, inner := range []string{"#0", "#1", "[N]#0", "[N]#1", "(#0>(#0*#1))"} {
		everyPlace(func(kind, index int) {
			x := around(kind, index, parse(t, inner))
			for _, names := range []string{"", "p", "a", "pq", "ba", "xyz"} {
				text := wantShown(x, names)
				checkShown(t, x, names, text)
				if text != "" {
					checkRead(t, text, names, x)
				}
			}
		})
	}
}

func TestBindersWithOtherNames(t *testing.T) {
	for _, c := range []struct {
		names string
		want  string
		texts []string
	}{
		{"", "[N]+#0", []string{"[a:N]+a", "[x:N]+x", "[z:N]+z"}},
		{"", "[*0][#0]#0", []string{"[a:*0][b:a]b", "[b:*0][a:b]a", "[t:*0][t:t]t", "[t:*0][x:t]x"}},
		{"", "(*0>(#0>#1))", []string{"(a:*0>(b:a>a))", "(z:*0>(y:z>z))", "(t:*0>(u:t>t))"}},
		{"", "(N*{N,#0,0})", []string{"(p:N*{N,p,0})", "(q:N*{N,q,0})"}},
		{"f", "[N](#1 #0)", []string{"[a:N](f a)", "[g:N](f g)", "[n:N](f n)"}},
		{"f", "([N]#0 [N]#0)", []string{"([a:N]a [a:N]a)", "([a:N]a [b:N]b)", "([f:N]f [g:N]g)"}},
		{"xy", "<[N]N,#1,[N][N]+#0,#0>", []string{"<[a:N]N,x,[a:N][b:N]+b,y>", "<[y:N]N,x,[n:N][m:N]+m,y>", "<[x:N]N,x,[x:N][x:N]+x,y>"}},
		{"", "[N][N]N", []string{"[a:N][b:N]N", "[a:N][a:N]N", "[q:N][b:N]N"}},
	} {
		for _, a := range c.texts {
			checkReadAs(t, a, c.names, c.want)
			for _, b := range c.texts {
				if !impl.NamedSame(a, b, c.names) {
					t.Errorf("NamedSame(%q, %q, %q) = false", a, b, c.names)
				}
			}
		}
	}
	for _, name := range strings.Split(alphabet, "") {
		checkReadAs(t, "["+name+":N]"+name, "", "[N]#0")
		checkReadAs(t, "("+name+":N>"+name+")", "", "(N>#0)")
		checkReadAs(t, "("+name+":N*"+name+")", "", "(N*#0)")
		checkReadAs(t, "["+name+":N]("+name+" x)", "x", map[bool]string{true: "[N](#0 #0)", false: "[N](#0 #1)"}[name == "x"])
	}
}

func TestNameThatIsBoundTwice(t *testing.T) {
	for _, c := range []namedCase{
		{"[N][N]#0", "", "[x:N][x:N]x"},
		{"[N][N][N]#0", "", "[x:N][x:N][x:N]x"},
		{"[N][N](#0 #2)", "y", "[x:N][x:N](x y)"},
		{"[N][*0][N](#0 #1)", "", "[x:N][y:*0][x:N](x y)"},
		{"[N]([N]#0 #0)", "", "[x:N]([x:N]x x)"},
		{"[N](#0 ([N]#0 #0))", "", "[x:N](x ([x:N]x x))"},
		{"[N](([N][N]#0 #0) [N]#1)", "", "[x:N](([x:N][x:N]x x) [y:N]x)"},
		{"[*0][#0]#0", "", "[x:*0][x:x]x"},
		{"(*0>(#0>#0))", "", "(x:*0>(x:x>x))"},
		{"(*0*(#0*#0))", "", "(x:*0*(x:x*x))"},
		{"(N>((N>#0)>#1))", "", "(x:N>(y:(x:N>x)>x))"},
		{"(N>((N>#0)>#0))", "", "(x:N>(x:(x:N>x)>x))"},
		{"[[N]#0]#0", "", "[x:[x:N]x]x"},
		{"{[N]#0,[N]#0,#0}", "x", "{[x:N]x,[x:N]x,x}"},
		{"|(N*#0),[N]#0,#0|", "x", "|(x:N*x),[x:N]x,x|"},
		{"<[N]#0,#0,[N][N]#0,#0>", "x", "<[x:N]x,x,[x:N][x:N]x,x>"},
		{"@<[N]#0,#0,[N]#0>", "x", "@<[x:N]x,x,[x:N]x>"},
	} {
		checkReadAs(t, c.named, c.names, c.text)
	}
	binders := map[int]string{impl.TermPi: "(x:N>", impl.TermLam: "[x:N]", impl.TermSigma: "(x:N*"}
	ends := map[int]string{impl.TermPi: ")", impl.TermLam: "", impl.TermSigma: ")"}
	for outer := range binders {
		for inner := range binders {
			x := mk(outer, nat(), mk(impl.TermApp, mk(inner, nat(), variable(0)), variable(0)))
			checkRead(t, binders[outer]+"("+binders[inner]+"x"+ends[inner]+" x)"+ends[outer], "", x)
		}
	}
}

func TestNamesOfFreeVariables(t *testing.T) {
	for _, c := range []namedCase{
		{"[N]#0", "x", "[x:N]x"},
		{"[#0]#0", "x", "[x:x]x"},
		{"(#0>#0)", "x", "(x:x>x)"},
		{"(#0*#0)", "x", "(x:x*x)"},
		{"([N]#0 #0)", "x", "([x:N]x x)"},
		{"(#0 [N]#0)", "x", "(x [x:N]x)"},
		{"[N](#0 #2)", "xy", "[y:N](y x)"},
		{"[N](#0 #1)", "xy", "[x:N](x y)"},
		{"[#1][#0](#0 #1)", "xy", "[y:x][x:y](x y)"},
	} {
		checkReadAs(t, c.named, c.names, c.text)
	}
	for _, c := range []namedCase{
		{"[N]#1", "a", "[b:N]a"},
		{"[N]#1", "b", "[a:N]b"},
		{"[N]#0", "a", "[b:N]b"},
		{"[N]#2", "ac", "[b:N]a"},
		{"[N]#1", "ac", "[b:N]c"},
		{"[N][N](#0 #1)", "ca", "[b:N][d:N](d b)"},
		{"[N][N](#0 #1)", "b", "[a:N][c:N](c a)"},
		{"[N]N", "abcde", "[f:N]N"},
		{"(#0>(#1>#2))", "a", "(b:a>(c:a>a))"},
		{"(#0*(#1*#2))", "a", "(b:a*(c:a*a))"},
		{"[#0][#1](#2 #0)", "a", "[b:a][c:a](a c)"},
	} {
		x := parse(t, c.text)
		checkShown(t, x, c.names, c.named)
		checkRead(t, c.named, c.names, x)
	}
}

// Only binders that are around a binder keep it from a name.
func TestNamesOfBindersBesideEachOther(t *testing.T) {
	for _, c := range []namedCase{
		{"([N]#0 [N]#0)", "", "([a:N]a [a:N]a)"},
		{"([N]#0 [N]#0)", "a", "([b:N]b [b:N]b)"},
		{"[[N]#0]#0", "", "[a:[a:N]a]a"},
		{"((N>#0)>#0)", "", "(a:(a:N>a)>a)"},
		{"((N*#0)*#0)", "", "(a:(a:N*a)*a)"},
		{"[([N][N]#0 [N]#0)]([N]#0 #0)", "", "[a:([a:N][b:N]b [a:N]a)]([b:N]b a)"},
		{"[N]([N]([N]#2 [N]#1) [N]#1)", "", "[a:N]([b:N]([c:N]a [c:N]b) [b:N]a)"},
		{"[N]((N>#0)>(#0*#0))", "", "[a:N](b:(b:N>b)>(c:b*c))"},
		{"{(N>#0),[N]#0,[N][N]#0}", "", "{(a:N>a),[a:N]a,[a:N][b:N]b}"},
		{"|(N*N),[N]#0,[N][N]#1|", "", "|(a:N*N),[a:N]a,[a:N][b:N]a|"},
		{"@<[N]#0,[N]#0,[N]#0>", "", "@<[a:N]a,[a:N]a,[a:N]a>"},
		{"<[N]#0,[N]#0,[N]#0,[N]#0>", "", "<[a:N]a,[a:N]a,[a:N]a,[a:N]a>"},
	} {
		x := parse(t, c.text)
		checkShown(t, x, c.names, c.named)
		checkRead(t, c.named, c.names, x)
	}
}

func validNames() []string {
	return []string{
		"", "a", "z", "m", "ab", "ba", "az", "abc", "cba", "bcd", "abd", "qwertyuiop", "zyxwvutsrqponm",
		alphabet[:19], alphabet[:20], alphabet[6:], alphabet[5:25], "bcdefghijklmnopqrstu", "tsrqponmlkjihgfedcba", "zabcdefghijklmnopqrs",
	}
}

func invalidNames() []string {
	return []string{
		"aa", "aba", "abb", "zz", "abcdefga", alphabet[:19] + "a", alphabet[:21], alphabet[5:], alphabet, alphabet + alphabet, strings.Repeat("a", 20), strings.Repeat("a", 1000000), strings.Repeat(alphabet, 100000),
		"A", "Z", "aB", "`", "{", "a{", "`a", " ", "a b", "a ", " a", "a\n", "0", "1", "a1", "#", "N", "x:", "a,b", "\x00", "a\x00", "\x00a", "\xff", "a\xff", "\u00e4", "\u03b1", "a\u0301", "\uff41", "\u00df", "\u0430", "\xe1",
	}
}

func TestListsOfNames(t *testing.T) {
	for _, names := range validNames() {
		if !impl.NamesValid(names) {
			t.Errorf("NamesValid(%q) = false", names)
		}
		if got, ok := impl.FreshName(names); !ok || got != string([]byte{firstUnused(names)}) {
			t.Errorf("FreshName(%q) = %q, %v", names, got, ok)
		}
		checkShown(t, parse(t, "++0"), names, "++0")
		checkReadAs(t, "++0", names, "++0")
		if !impl.NamedSame("0", "0", names) {
			t.Errorf("NamedSame refuses %q", names)
		}
		for i := range len(names) {
			x := variable(len(names) - 1 - i)
			checkShown(t, x, names, names[i:i+1])
			checkRead(t, names[i:i+1], names, x)
		}
	}
	for _, names := range invalidNames() {
		checkNamesRefused(t, names)
	}
	for b := range 256 {
		names := "x" + string([]byte{byte(b)})
		if valid := b >= 'a' && b <= 'z' && b != 'x'; impl.NamesValid(names) != valid {
			t.Errorf("NamesValid(%q) = %v", names, !valid)
		}
	}
}

func checkNamesRefused(t *testing.T, names string) {
	t.Helper()
	what := names[:min(len(names), 40)]
	if impl.NamesValid(names) {
		t.Errorf("NamesValid(%q) = true", what)
	}
	if got, ok := impl.FreshName(names); ok || got != "" {
		t.Errorf("FreshName(%q) = %q, %v", what, got, ok)
	}
	for _, text := range []string{"N", "0", "[N]#0", "#0"} {
		if got := impl.ShowNamed(parse(t, text), names); got != "" {
			t.Errorf("ShowNamed of %s and %q = %q", text, what, got)
		}
	}
	for _, text := range []string{"N", "0", "[a:N]a", "a", "x", ""} {
		got, ok := impl.ParseNamed(text, names)
		checkRefused(t, "ParseNamed of "+text+" and "+strconv.Quote(what), got, ok)
		if impl.NamedSame(text, text, names) {
			t.Errorf("NamedSame(%q, %q, %q) = true", text, text, what)
		}
	}
}

func TestFreshNames(t *testing.T) {
	for names, want := range map[string]string{"": "a", "a": "b", "b": "a", "abd": "c", "dba": "c", "z": "a", "bcdefgh": "a", alphabet[:20]: "u", alphabet[1:21]: "a", "acegikmoqsuwy": "b"} {
		if got, ok := impl.FreshName(names); !ok || got != want {
			t.Errorf("FreshName(%q) = %q, %v, want %q", names, got, ok, want)
		}
	}
	for n := range 21 {
		if got, ok := impl.FreshName(alphabet[:n]); !ok || got != alphabet[n:n+1] {
			t.Errorf("FreshName(%q) = %q, %v", alphabet[:n], got, ok)
		}
	}
	if got, ok := impl.FreshName(alphabet[:21]); ok || got != "" {
		t.Errorf("FreshName of 21 letters = %q, %v", got, ok)
	}
}

// nested puts binders of the kind around t, which is their operand with the
// given index.
func nested(kind, index, binders int, t impl.Term) impl.Term {
	for range binders {
		t = around(kind, index, t)
	}
	return t
}

func TestMostBindersThatAreShown(t *testing.T) {
	for _, kind := range []int{impl.TermPi, impl.TermLam, impl.TermSigma} {
		for letters := range 21 {
			names := alphabet[26-letters:]
			for _, inner := range []impl.Term{nat(), succs(3, zero()), nested(kind, 0, 2, zero()), mk(impl.TermApp, nested(impl.TermLam, 0, 1, nat()), nat())} {
				most := 20 - letters - wantMostBinders(inner)
				for _, binders := range []int{0, 1, most - 1, most, most + 1, most + 2, 24} {
					x := nested(kind, 1, binders, inner)
					if binders < 0 || binders+impl.TermDepth(inner) > 30 {
						continue
					}
					if shown := impl.ShowNamed(x, names) != ""; shown != (binders <= most) {
						t.Errorf("%s with %d letters: shown = %v", textOf(x), letters, shown)
					}
					checkShown(t, x, names, wantShown(x, names))
				}
			}
			first := nested(kind, 0, 28, zero())
			if shown := impl.ShowNamed(first, names) != ""; shown != (letters < 20) {
				t.Errorf("28 binders in first operands with %d letters: shown = %v", letters, shown)
			}
			checkShown(t, first, names, wantShown(first, names))
		}
	}
	checkShown(t, nested(impl.TermLam, 1, 20, variable(19)), "", "[a:N][b:N][c:N][d:N][e:N][f:N][g:N][h:N][i:N][j:N][k:N][l:N][m:N][n:N][o:N][p:N][q:N][r:N][s:N][t:N]a")
	checkShown(t, nested(impl.TermLam, 1, 21, variable(20)), "", "")
	checkShown(t, nested(impl.TermLam, 1, 21, variable(0)), "", "")
	checkShown(t, nested(impl.TermLam, 1, 1, variable(19)), alphabet[:19], "[t:N]a")
	checkShown(t, nested(impl.TermLam, 1, 1, nat()), alphabet[:20], "")
	everyPlace(func(kind, index int) {
		most := 20
		if binds(kind, index) {
			most--
		}
		for binders := 18; binders <= 22; binders++ {
			x := around(kind, index, nested(impl.TermLam, 1, binders, nat()))
			if shown := impl.ShowNamed(x, "") != ""; shown != (binders <= most) {
				t.Errorf("%d binders in the operand %d of the kind %d: shown = %v", binders, index, kind, shown)
			}
		}
	})
}

func TestNumberOfNamesForFreeVariables(t *testing.T) {
	for n := range 21 {
		for letters := range 21 {
			for binders := range 4 {
				if n+binders > impl.MaxIndex {
					continue
				}
				x := nested(impl.TermLam, 1, binders, variable(n+binders))
				want := letters > n && letters+binders <= 20
				if got := impl.ShowNamed(x, alphabet[:letters]); (got != "") != want || want && !strings.HasSuffix(got, alphabet[letters-1-n:letters-n]) {
					t.Errorf("ShowNamed of %s with %d letters = %q", textOf(x), letters, got)
				}
			}
		}
	}
	for _, c := range []namedCase{
		{"#0", "", ""}, {"#1", "a", ""}, {"#20", alphabet[:20], ""}, {"#19", alphabet[:20], "a"}, {"[N]#1", "", ""}, {"[N]#2", "x", ""}, {"(#0 #5)", "abcde", ""}, {"(#0 #5)", "abcdef", "(f a)"}, {"(#2>#3)", "ab", ""}, {"(#2>#3)", "abx", "(c:a>a)"}, {"{N,[N]#3,0}", "xy", ""},
	} {
		checkShown(t, parse(t, c.text), c.names, c.named)
	}
}

func TestTextsThatAreAlmostNamed(t *testing.T) {
	for _, text := range []string{
		"", " ", "\n", "\x00", ":", "x:", ":x", "x:N", "xx", "xy", "x y", " x", "x ", "x\n", "x\x00", "x)", "(x", "(x ", "(x x", "(x x x)", "(x  x)", "( x x)", "(x x )", "(x x))", "((x x)", "(xx)", "(x)", "()", "(x,y)",
		"a", "z", "A", "X", "xN", "Nx", "x0", "0x", "\xff", "\u00e4", "\u03b1", "n", "#", "#0", "#1", "#20", "x#0", "[x:N]#0", "[x:N]#", "(x #0)", "{N,#0,x}",
		"[N]x", "[N]N", "[N]0", "[]N", "[x]x", "[x]N", "[x:]N", "[:N]x", "[:N]N", "[ x:N]x", "[x :N]x", "[x: N]x", "[x:N ]x", "[x:N] x", "[x:N", "[x:N]", "[x:N)x", "x:N]x", "[x:N]xx", "[x:N]x]", "[x::N]x", "[x:x:N]x", "[xy:N]x", "[x,y:N]x", "[[x:N]x", "[x:N][", "[x;N]x", "[x=N]x",
		"[X:N]X", "[X:N]N", "[N:N]N", "[N:N]0", "[0:N]0", "[0:N]N", "[1:N]1", "[#0:N]#0", "[#:N]N", "[*0:N]N", "[+x:N]x", "[`:N]N", "[{:N]N", "[ :N]N", "[_:N]N", "[\xe4:N]N", "[\u00e4:N]N", "[\u03b1:N]N", "[\x00:N]N",
		"(N>N)", "(N*N)", "(N>x)", "(x>N)", "(x*N)", "(:N>N)", "(:N*N)", "(x:N)", "(x:N N)", "(x:N x)", "(x:N,N)", "(x:N+N)", "(x:>N)", "(x:N>)", "(x:*N)", "(x:N*)", "(x:N>N", "(x:N*N", "(x:N>N))", "(x:N>N]", "(x:N**N)", "(x:N->N)", "(x:N >N)", "(x:N> N)", "(x :N>N)", "(x: N>N)", "(X:N>N)", "(N:N>N)", "(0:N>N)", "(#0:N>N)", "(xy:N>N)", "(x:y:N>N)", "(x:N>y:N>N)", "((x:N)>N)", "(x>y>N)", "(x::N>N)", "[x:N>N]", "{x:N>N}",
		"(z:N>(y:z>w))", "[z:z]N", "(z:z>N)", "(z:z*N)", "([z:N]z z)", "((z:N>z) z)", "((z:N*z) z)", "{[z:N]z,z,0}", "<[z:N]N,0,0,z>", "@<[z:N]N,0,z>", "|(z:N*z),0,z|", "[z:[w:N]w]w", "(z:(w:N>w)>w)", "(z:(w:N*w)*w)",
		"+", "+-x", "+ x", "!", "^", "_", "*", "*4", "*00", "*x", "@x", "@<x,x>", "@<x,x,x,x>", "@(x,x,x)", "<x,x,x>", "<x,x,x,x,x>", "<x,x,x,x", "{x,x}", "{x,x,x,x}", "{x,x,x", "{x:N,x,x}", "|x,x|", "|x,x,x", "|x,x,x,x|", "00", "1", "N1", "++", "0+", "NN",
	} {
		checkReadAs(t, text, "xy", "")
		for _, names := range []string{"xy", "x", ""} {
			if impl.NamedSame(text, text, names) {
				t.Errorf("NamedSame accepts %q", text)
			}
		}
	}
	for _, text := range []string{"x", "(x x)", "[y:N]x", "(y:x>N)", "(y:N*x)", "{N,0,x}", "[a:N][b:N]((a b) x)"} {
		checkReadAs(t, text, "", "")
		checkReadAs(t, text, "y", "")
		if _, ok := impl.ParseNamed(text, "x"); !ok {
			t.Errorf("ParseNamed refuses %q", text)
		}
	}
}

// Every text that differs in one byte from the named text of a term is either
// that of the term that is returned, or is rejected.
func TestNamedTextsChangedInOneByte(t *testing.T) {
	accepted := 0
	check := func(text, names string) {
		got, ok := impl.ParseNamed(text, names)
		if !ok {
			checkRefused(t, "ParseNamed of "+text, got, ok)
			return
		}
		accepted++
		rest := []byte(text)
		again, read := namedText(got, names, func(string) byte {
			colon := bytes.IndexByte(rest, ':')
			name := rest[colon-1]
			rest = rest[colon+1:]
			return name
		})
		if again != text || !equalTerm(read, got) || !impl.TermValid(got) {
			t.Errorf("ParseNamed(%q, %q) = %s", text, names, textOrZero(got))
		}
	}
	for _, c := range namedCases() {
		for i := range len(c.named) + 1 {
			for _, b := range []byte("abcxyz:#*()[]<>{}|@^_!+,N012 \n-A\xff") {
				check(c.named[:i]+string([]byte{b})+c.named[i:], c.names)
				if i < len(c.named) {
					check(c.named[:i]+string([]byte{b})+c.named[i+1:], c.names)
				}
			}
			if i < len(c.named) {
				check(c.named[:i]+c.named[i+1:], c.names)
			}
		}
	}
	if accepted < 100 {
		t.Errorf("only %d changed texts were those of terms", accepted)
	}
}

// A binder more than ShowNamed allows does not matter to ParseNamed, as long
// as each variable is near enough to its binder.
func TestVariablesFarFromTheirBinders(t *testing.T) {
	between := func(binder, end string, times int, inner string) string {
		return strings.Repeat(binder, times) + inner + strings.Repeat(end, times)
	}
	for _, b := range [][2]string{{"[b:N]", ""}, {"(b:N>", ")"}, {"(b:N*", ")"}} {
		plain := strings.Replace(b[0], "b:", "", 1)
		for times := range 25 {
			want, free := "", ""
			if times <= 20 {
				want = "[N]" + between(plain, b[1], times, "#"+strconv.Itoa(times))
				free = between(plain, b[1], times, "#"+strconv.Itoa(times))
			}
			checkReadAs(t, "[x:N]"+between(b[0], b[1], times, "x"), "", want)
			checkReadAs(t, between(b[0], b[1], times, "x"), "x", free)
			checkReadAs(t, "[x:N]"+between(b[0], b[1], times, "x"), "x", want)
			checkReadAs(t, between(b[0], b[1], times, "[x:N]x"), "x", between(plain, b[1], times, "[N]#0"))
		}
	}
	var all strings.Builder
	for _, name := range []byte(alphabet) {
		all.WriteString("[" + string([]byte{name}) + ":N]")
	}
	for i, name := range []byte(alphabet) {
		want := ""
		if 25-i <= 20 {
			want = strings.Repeat("[N]", 26) + "#" + strconv.Itoa(25-i)
		}
		checkReadAs(t, all.String()+string([]byte{name}), "", want)
	}
	checkReadAs(t, "[u:N]a", alphabet[:20], "[N]#20")
	checkReadAs(t, "[u:N][v:N]a", alphabet[:20], "")
	checkReadAs(t, "[u:N][v:N]b", alphabet[:20], "[N][N]#20")
	checkReadAs(t, "[u:N][a:N]a", alphabet[:20], "[N][N]#0")
}

func TestNamedTextsAtTheLimits(t *testing.T) {
	check := func(what string, x impl.Term, names string, valid bool) {
		t.Helper()
		text, read := namedText(x, names, func(string) byte { return 'b' })
		if !valid {
			read = impl.Term{}
		}
		checkRead(t, text, names, read)
		if impl.NamedSame(text, text, names) != valid {
			t.Errorf("%s: NamedSame = %v", what, !valid)
		}
		if shown := impl.ShowNamed(x, names); shown != "" && !valid {
			t.Errorf("%s: ShowNamed = %q", what, shown)
		}
	}
	check("400 nodes", sized(400), "", true)
	check("401 nodes", sized(401), "", false)
	check("many nodes", sized(5000), "", false)
	checkShown(t, sized(400), "abc", textOf(sized(400)))
	everyPlace(func(kind, index int) {
		rest := 400 - operandsOf(kind)
		check("400 nodes", around(kind, index, sized(rest)), "", true)
		check("401 nodes", around(kind, index, sized(rest+1)), "", false)
		deep := nested(kind, index, 29, nat())
		check("depth 30", deep, "", true)
		check("depth 31", around(kind, index, deep), "", false)
		check("depth 31, at the bottom", nested(kind, index, 29, succs(1, zero())), "", false)
		check("a variable at the depth 30", nested(kind, index, 29, variable(0)), "x", true)
		check("a variable at the depth 31", nested(kind, index, 30, variable(0)), "x", false)
		check("a sort past the limit", around(kind, index, sort(4)), "", false)
	})
	check("depth 30", succs(29, zero()), "", true)
	check("depth 31", succs(30, zero()), "", false)
	for n := range 8 {
		check("a sort", sort(n), "", n <= 3)
	}
	for _, part := range []string{"+", "!", "^", "(", "[", "{", "<", "@<", "|", "*", "x", "N", "0", "[x:N]", "(x:N>", "(x:N*", "[x:", "(x:", "x:", "(x x)", "(x ", "#0", ":"} {
		checkReadAs(t, strings.Repeat(part, 1000000), "x", "")
	}
}

func TestNamedSame(t *testing.T) {
	for _, c := range []struct {
		a, b, names string
		want        bool
	}{
		{"[a:N]+a", "[x:N]+x", "", true},
		{"[a:N]+a", "[x:N]+x", "xa", true},
		{"(p:N*{N,p,0})", "(q:N*{N,q,0})", "", true},
		{"(p:N*{N,p,0})", "(q:N>{N,q,0})", "", false},
		{"[a:N]x", "[x:N]x", "x", false},
		{"[a:N]x", "[b:N]x", "x", true},
		{"[a:N][b:N]a", "[a:N][b:N]b", "", false},
		{"[a:N][b:N]a", "[b:N][a:N]b", "", true},
		{"[a:N][b:N]b", "[a:N][a:N]a", "", true},
		{"[a:N][b:N]a", "[a:N][a:N]a", "", false},
		{"x", "y", "xy", false},
		{"x", "x", "xy", true},
		{"N", "N", "", true},
		{"N", "0", "", false},
		{"*0", "*1", "", false},
		{"([a:N]a 0)", "0", "", false},
		{"+0", "++0", "", false},
		{"x", "x", "", false},
		{"x", "N", "", false},
		{"N", "x", "", false},
		{"", "", "", false},
		{"", "N", "", false},
		{"N", "", "", false},
		{"[N]0", "[a:N]0", "", false},
		{"[a:N]0", "[N]0", "", false},
		{"[N]0", "[N]0", "", false},
		{"#0", "#0", "x", false},
		{"x", "#0", "x", false},
		{"#0", "x", "x", false},
		{"x ", "x ", "x", false},
		{"x", "x ", "x", false},
		{"y", "z", "x", false},
		{"0", "0", "xx", false},
		{"0", "0", "X", false},
		{strings.Repeat("+", 29) + "0", strings.Repeat("+", 29) + "0", "", true},
		{strings.Repeat("+", 30) + "0", strings.Repeat("+", 30) + "0", "", false},
		{strings.Repeat("+", 29) + "0", strings.Repeat("+", 30) + "0", "", false},
	} {
		if got := impl.NamedSame(c.a, c.b, c.names); got != c.want {
			t.Errorf("NamedSame(%q, %q, %q) = %v", c.a, c.b, c.names, got)
		}
		if got := impl.NamedSame(c.b, c.a, c.names); got != c.want {
			t.Errorf("NamedSame(%q, %q, %q) = %v", c.b, c.a, c.names, got)
		}
	}
}

// someNames returns letters in a random order.
func someNames(r *rand.Rand, letters int) string {
	names := []byte(alphabet)
	r.Shuffle(len(names), func(i, k int) { names[i], names[k] = names[k], names[i] })
	return string(names[:letters])
}

func TestNamedTextsOfRandomTerms(t *testing.T) {
	r := rand.New(rand.NewSource(6))
	shown, renamed, other := 0, 0, 0
	for range 30000 {
		x := randomOpen(r, 1+r.Intn(6), 1+r.Intn(8))
		if !impl.TermValid(x) {
			continue
		}
		names := someNames(r, r.Intn(14))
		text := wantShown(x, names)
		checkShown(t, x, names, text)
		if text == "" {
			continue
		}
		shown++
		checkRead(t, text, names, x)
		few := "abcdefghij"[:1+r.Intn(10)]
		again, read := namedText(x, names, func(string) byte { return few[r.Intn(len(few))] })
		same := equalTerm(read, x)
		checkRead(t, again, names, read)
		if impl.NamedSame(text, again, names) != same || impl.NamedSame(again, text, names) != same {
			t.Errorf("NamedSame(%q, %q, %q) = %v", text, again, names, !same)
		}
		if !same {
			other++
		} else if again != text {
			renamed++
		}
		if t.Failed() {
			t.Fatalf("the first term with a failure is %s", textOf(x))
		}
	}
	if shown < 10000 || renamed < 1000 || other < 1000 {
		t.Errorf("only %d terms were shown, %d read with other names, %d changed by a binder with the name of another", shown, renamed, other)
	}
}

func TestNamesOfInvalidTerms(t *testing.T) {
	for i, x := range invalidTerms() {
		for _, names := range []string{"", "x", alphabet[:20]} {
			if got := impl.ShowNamed(x, names); got != "" {
				t.Errorf("ShowNamed of the invalid term %d = %q", i, got)
			}
		}
	}
}

func TestNamedTextsShareNoMemory(t *testing.T) {
	text, names := "[a:(b:x*x)](a [b:N]{N,+b,(x x)})", "yx"
	first, ok := impl.ParseNamed(text, names)
	second, fine := impl.ParseNamed(text, names)
	want := copyTerm(second)
	if !ok || !fine || !equalTerm(first, second) {
		t.Fatalf("two calls of ParseNamed return %s, %v and %s, %v", textOrZero(first), ok, textOrZero(second), fine)
	}
	checkSeparateParts(t, second)
	overwrite(first)
	if !equalTerm(second, want) {
		t.Error("two results of ParseNamed share memory")
	}
	store := []impl.Term{parse(t, "[N]#1"), variable(0), mk(77)}
	x := impl.Term{Kind: impl.TermApp, Kids: store[:2]}
	checkShown(t, x, names, "([a:N]x x)")
	if !equalTerm(store[0], parse(t, "[N]#1")) || !equalTerm(store[1], variable(0)) || store[2].Kind != 77 {
		t.Error("ShowNamed changes the memory of its argument")
	}
	checkShown(t, doubled(3, parse(t, "[N]#1")), "p", "((([a:N]p [a:N]p) ([a:N]p [a:N]p)) (([a:N]p [a:N]p) ([a:N]p [a:N]p)))")
}

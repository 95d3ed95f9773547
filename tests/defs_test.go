package tests

import (
	"fmt"
	"math/rand"
	"slices"
	"strings"
	"testing"

	"loop.example/depkernel/impl"
)

// Promise 9: unfolding preserves types.

// The functions whose names begin with want are chapter 9, written down a
// second time: recursive, and with substitutions that need no numbers.

func wantCovers(n int, x impl.Term) bool {
	return impl.TermValid(x) && !slices.ContainsFunc(freeNumbers(x), func(i int) bool { return i >= n })
}

func wantDefsValid(list []impl.Def) bool {
	if len(list) > 8 {
		return false
	}
	for i, d := range list {
		if !wantCovers(i, d.Type) || !wantCovers(i, d.Body) {
			return false
		}
	}
	return true
}

// wantUnfold needs the list and x to be valid.
func wantUnfold(list []impl.Def, x impl.Term) (impl.Term, bool) {
	if len(list) == 0 {
		return x, true
	}
	last := len(list) - 1
	next := wantSubst(x, 0, list[last].Body)
	if !impl.TermValid(next) {
		return impl.Term{}, false
	}
	return wantUnfold(list[:last], next)
}

// unfoldAtOnce replaces all variables by unfolded bodies, however large the
// result is.
func unfoldAtOnce(list []impl.Def, x impl.Term) impl.Term {
	return replaceAll(x, func(n int) *uniqueTerm {
		index := len(list) - 1 - n
		return toUnique(unfoldAtOnce(list[:index], list[index].Body), nil)
	})
}

func wantCheckDefs(list []impl.Def) int {
	if !wantDefsValid(list) {
		return impl.TypeInvalid
	}
	for i, d := range list {
		body, ok := wantUnfold(list[:i], d.Body)
		is, fine := wantUnfold(list[:i], d.Type)
		if !ok || !fine {
			return impl.TypeOpen
		}
		if code := wantCheck(nil, body, is); code != impl.TypeOk {
			return code
		}
	}
	return impl.TypeOk
}

func wantInferDefined(list []impl.Def, x impl.Term) (impl.Term, int) {
	if !wantDefsValid(list) || !wantCovers(len(list), x) {
		return impl.Term{}, impl.TypeInvalid
	}
	y, ok := wantUnfold(list, x)
	if !ok {
		return impl.Term{}, impl.TypeOpen
	}
	found, code := wantType(nil, y)
	if code != impl.TypeOk {
		return impl.Term{}, code
	}
	return found, code
}

// wantUsed needs the list and x to be valid.
func wantUsed(list []impl.Def, x impl.Term) []int {
	used := map[int]bool{}
	var visit func(n int, y impl.Term)
	visit = func(n int, y impl.Term) {
		for _, i := range freeNumbers(y) {
			if index := n - 1 - i; !used[index] {
				used[index] = true
				visit(index, list[index].Body)
			}
		}
	}
	visit(len(list), x)
	var indices []int
	for i := range list {
		if used[i] {
			indices = append(indices, i)
		}
	}
	return indices
}

func wantDefsText(list []impl.Def) string {
	var out strings.Builder
	for _, d := range list {
		out.WriteString(textOf(d.Type) + "=" + textOf(d.Body) + "\n")
	}
	return out.String()
}

// defsOf reads definitions without the help of ParseDefs.
func defsOf(t *testing.T, lines ...string) []impl.Def {
	t.Helper()
	var list []impl.Def
	for _, line := range lines {
		is, body, _ := strings.Cut(line, "=")
		list = append(list, impl.Def{Type: parse(t, is), Body: parse(t, body)})
	}
	return list
}

func def(is, body impl.Term) impl.Def { return impl.Def{Type: is, Body: body} }

func equalDefs(a, b []impl.Def) bool {
	return slices.EqualFunc(a, b, func(x, y impl.Def) bool { return equalTerm(x.Type, y.Type) && equalTerm(x.Body, y.Body) })
}

func copyDefs(list []impl.Def) []impl.Def {
	var c []impl.Def
	for _, d := range list {
		c = append(c, def(copyTerm(d.Type), copyTerm(d.Body)))
	}
	return c
}

// saidDefs needs terms of which a text can be written.
func saidDefs(list []impl.Def, x impl.Term) string {
	return fmt.Sprintf("%q and %s", wantDefsText(list), textOrZero(x))
}

// checkList compares the functions that take no term, for a valid list.
func checkList(t *testing.T, list []impl.Def) {
	t.Helper()
	text := wantDefsText(list)
	if !wantDefsValid(list) || !impl.DefsValid(list) {
		t.Errorf("DefsValid of %q = %v", text, impl.DefsValid(list))
	}
	if got := impl.FormatDefs(list); got != text {
		t.Errorf("FormatDefs of %q = %q", text, got)
	}
	if got, ok := impl.ParseDefs(text); !ok || !equalDefs(got, list) {
		t.Errorf("ParseDefs of %q = %q, %v", text, wantDefsText(got), ok)
	}
	if got, want := impl.CheckDefs(list), wantCheckDefs(list); got != want {
		t.Errorf("CheckDefs of %q = %d, want %d", text, got, want)
	}
	types, ok := impl.DefTypes(list)
	if !ok || len(types) != len(list) {
		t.Errorf("DefTypes of %q = %s, %v", text, textsOf(types), ok)
		return
	}
	for i := range list {
		if !equalTerm(types[i], list[i].Type) {
			t.Errorf("DefTypes of %q = %s", text, textsOf(types))
		}
	}
}

// checkWith compares the functions that take a term, for a valid list and a
// valid term.
func checkWith(t *testing.T, list []impl.Def, x impl.Term) {
	t.Helper()
	if !wantCovers(len(list), x) {
		checkOutside(t, saidDefs(list, x), list, x)
		return
	}
	want, exists := wantUnfold(list, x)
	got, ok := impl.UnfoldTerm(list, x)
	checkTermResult(t, "UnfoldTerm of "+saidDefs(list, x), got, ok, want, exists)
	if exists && (impl.MaxFree(got) != 0 || !equalTerm(got, unfoldAtOnce(list, x))) {
		t.Errorf("UnfoldTerm of %s = %s", saidDefs(list, x), textOrZero(got))
	}
	want, wantCode := wantInferDefined(list, x)
	got, code := impl.InferDefined(list, x)
	checkTyped(t, "InferDefined of "+saidDefs(list, x), got, code, want, wantCode)
	if got, want := impl.UsedDefs(list, x), wantUsed(list, x); !slices.Equal(got, want) {
		t.Errorf("UsedDefs of %s = %v, want %v", saidDefs(list, x), got, want)
	}
}

// checkOutside wants every function that takes a term to refuse the list or
// the term.
func checkOutside(t *testing.T, what string, list []impl.Def, x impl.Term) {
	t.Helper()
	got, ok := impl.UnfoldTerm(list, x)
	checkRefused(t, "UnfoldTerm of "+what, got, ok)
	got, code := impl.InferDefined(list, x)
	checkTyped(t, "InferDefined of "+what, got, code, impl.Term{}, impl.TypeInvalid)
	if used := impl.UsedDefs(list, x); len(used) != 0 {
		t.Errorf("UsedDefs of %s = %v", what, used)
	}
}

// checkNoDefs wants every function to refuse the list.
func checkNoDefs(t *testing.T, what string, list []impl.Def) {
	t.Helper()
	if impl.DefsValid(list) {
		t.Errorf("DefsValid of %s = true", what)
	}
	if text := impl.FormatDefs(list); text != "" {
		t.Errorf("FormatDefs of %s = %q", what, text)
	}
	if code := impl.CheckDefs(list); code != impl.TypeInvalid {
		t.Errorf("CheckDefs of %s = %d", what, code)
	}
	if types, ok := impl.DefTypes(list); ok || len(types) != 0 {
		t.Errorf("DefTypes of %s has %d elements, %v", what, len(types), ok)
	}
	for _, x := range []impl.Term{nat(), zero(), variable(0), succs(1, variable(0)), mk(impl.TermLam, nat(), variable(0)), mk(77)} {
		checkOutside(t, what, list, x)
	}
}

// checkDefs compares all functions, also for all beginnings of the list.
func checkDefs(t *testing.T, list []impl.Def, terms ...impl.Term) {
	t.Helper()
	for n := range len(list) + 1 {
		checkList(t, list[:n])
		for i := range n + 1 {
			checkWith(t, list[:n], variable(i))
			checkWith(t, list[:n], mk(impl.TermRefl, variable(i)))
		}
		for _, x := range terms {
			checkWith(t, list[:n], x)
		}
	}
}

// checkNotRead wants ParseDefs to find no definitions.
func checkNotRead(t *testing.T, text string) {
	t.Helper()
	if list, ok := impl.ParseDefs(text); ok || len(list) != 0 {
		t.Errorf("ParseDefs of %.200q = %q, %v", text, wantDefsText(list), ok)
	}
}

func TestNoDefinitions(t *testing.T) {
	for _, list := range [][]impl.Def{nil, {}, make([]impl.Def, 0, 3)} {
		if !impl.DefsValid(list) || impl.FormatDefs(list) != "" || impl.CheckDefs(list) != impl.TypeOk {
			t.Errorf("the empty list: %v, %q, %d", impl.DefsValid(list), impl.FormatDefs(list), impl.CheckDefs(list))
		}
		if types, ok := impl.DefTypes(list); !ok || len(types) != 0 {
			t.Errorf("DefTypes of the empty list = %s, %v", textsOf(types), ok)
		}
		for _, c := range []struct{ text, is string }{
			{"0", "N"}, {"[N]#0", "(N>N)"}, {"([N]#0 0)", "N"}, {"N", "*0"}, {"*2", "*3"}, {"!0", "{N,0,0}"},
		} {
			x := parse(t, c.text)
			got, ok := impl.UnfoldTerm(list, x)
			checkText(t, "UnfoldTerm of no definitions and "+c.text, got, ok, c.text)
			got, code := impl.InferDefined(list, x)
			checkTyped(t, "InferDefined of no definitions and "+c.text, got, code, parse(t, c.is), impl.TypeOk)
			if used := impl.UsedDefs(list, x); len(used) != 0 {
				t.Errorf("UsedDefs of no definitions and %s = %v", c.text, used)
			}
			checkWith(t, list, x)
		}
		for text, code := range map[string]int{"*3": impl.TypeBad, "+N": impl.TypeBad, "(0 0)": impl.TypeBad, chain("[N]", 21, "0", ""): impl.TypeOpen} {
			got, gotCode := impl.InferDefined(list, parse(t, text))
			checkTyped(t, "InferDefined of no definitions and "+text, got, gotCode, impl.Term{}, code)
		}
		for _, text := range []string{"#0", "#20", "[N]#1", "[#0]#0", "+#3", "(#0 0)"} {
			checkOutside(t, "no definitions and "+text, list, parse(t, text))
		}
		for i, x := range invalidTerms() {
			checkOutside(t, fmt.Sprint("no definitions and the invalid term ", i), list, x)
		}
	}
	if list, ok := impl.ParseDefs(""); !ok || len(list) != 0 {
		t.Errorf("ParseDefs of the empty text = %q, %v", wantDefsText(list), ok)
	}
}

func TestNumberOfDefinitions(t *testing.T) {
	for _, body := range []impl.Term{zero(), variable(0)} {
		for n := range 9 {
			list := slices.Repeat([]impl.Def{def(nat(), body)}, n)
			if n > 0 {
				list[0].Body = succs(2, zero())
			}
			checkDefs(t, list, succs(1, variable(0)), variable(7), variable(8))
			if code := impl.CheckDefs(list); code != impl.TypeOk {
				t.Errorf("CheckDefs of %d definitions = %d", n, code)
			}
			for i := range n {
				want := "0"
				if body.Kind == impl.TermVar || i == n-1 {
					want = "++0"
				}
				got, ok := impl.UnfoldTerm(list, variable(i))
				checkText(t, fmt.Sprint("UnfoldTerm of ", n, " definitions and #", i), got, ok, want)
			}
		}
		for _, n := range []int{9, 10, 20, 1000000} {
			list := slices.Repeat([]impl.Def{def(nat(), body)}, n)
			list[0].Body = zero()
			checkNoDefs(t, fmt.Sprint(n, " definitions"), list)
			checkNotRead(t, "N=0\n"+strings.Repeat("N="+textOf(body)+"\n", n-1))
		}
	}
	checkNoDefs(t, "9 zero values", make([]impl.Def, 9))
}

// A Type or a Body may use exactly the definitions before it.
func TestScopeOfDefinitions(t *testing.T) {
	forms := []func(i int) impl.Term{
		variable,
		func(i int) impl.Term { return mk(impl.TermLam, nat(), variable(i+1)) },
		func(i int) impl.Term { return mk(impl.TermPi, variable(i), variable(0)) },
		func(i int) impl.Term {
			return mk(impl.TermApp, mk(impl.TermSigma, nat(), mk(impl.TermSigma, nat(), variable(i+2))), variable(i))
		},
	}
	for n := range 8 {
		list := slices.Repeat([]impl.Def{def(nat(), zero())}, 8)
		for _, form := range forms {
			for i := range 10 {
				for _, d := range []impl.Def{def(nat(), form(i)), def(form(i), zero()), def(form(i), form(i)), def(form(0), form(i)), def(form(i), form(0))} {
					list[n] = d
					what := fmt.Sprint("#", i, " in the definition ", n)
					if i < n {
						checkList(t, list)
						checkWith(t, list, mk(impl.TermApp, variable(0), variable(7)))
					} else {
						checkNoDefs(t, what, list)
						checkNoDefs(t, what, list[:n+1])
						checkNotRead(t, wantDefsText(list))
						checkNotRead(t, wantDefsText(list[:n+1]))
						checkList(t, list[:n])
					}
				}
			}
		}
	}
	for _, text := range []string{"#0", "#1", "#20"} {
		checkNoDefs(t, text+" as the first body", defsOf(t, "N="+text))
		checkNoDefs(t, text+" as the first type", defsOf(t, text+"=0"))
	}
}

func TestDefinitionsWithInvalidTerms(t *testing.T) {
	terms := append(invalidTerms(), mk(77), variable(21), sort(4), sized(401), succs(30, variable(0)), mk(impl.TermPi, nat()))
	for i, x := range terms {
		for n := range 8 {
			for _, place := range []int{0, n / 2, n} {
				for _, d := range []impl.Def{def(x, zero()), def(nat(), x), def(x, x), def(variable(9), x)} {
					list := slices.Insert(slices.Repeat([]impl.Def{def(nat(), zero())}, n), place, d)
					checkNoDefs(t, fmt.Sprint("the invalid term ", i, " at ", place, " of ", n), list)
				}
			}
		}
		valid := defsOf(t, "N=++0", "N=+#0")
		checkOutside(t, fmt.Sprint("the invalid term ", i), valid, x)
		checkOutside(t, fmt.Sprint("the invalid term ", i, " with a variable"), valid, mk(impl.TermApp, variable(0), x))
	}
	// The invalid one is used by nothing, and there is none to use it.
	checkNoDefs(t, "the zero value", make([]impl.Def, 1))
	checkNoDefs(t, "the zero value at the end", append(defsOf(t, "N=0"), impl.Def{}))
}

func TestTextsOfDefinitions(t *testing.T) {
	for _, lines := range [][]string{
		{"N=0"}, {"N=++0", "N=+#0", "{N,#0,+++0}=!#0"}, {"(N>(N>N))=[N][N]<[N]N,#1,[N][N]+#0,#0>", "(N>N)=[N]((#1 #0) #0)"},
		{"@<N,0,0>=@<N,!0,^|N,0,_0|>", "(N*#0)=<#0,#0,#0,#0>"}, {"0=N", "#0=#0", "(#0>#1)=(#0*#2)"}, {"*3=[N]#0", "*0=*1", "(N>(N>#3))=[#1](#2 #0)"},
	} {
		list, text := defsOf(t, lines...), strings.Join(lines, "\n")+"\n"
		if got := impl.FormatDefs(list); got != text {
			t.Errorf("FormatDefs of %q = %q", text, got)
		}
		got, ok := impl.ParseDefs(text)
		if !ok || !equalDefs(got, list) || impl.FormatDefs(got) != text {
			t.Errorf("ParseDefs of %q = %q, %v", text, wantDefsText(got), ok)
		}
		checkDefs(t, list)
	}
}

func TestTextsThatAreNearlyRight(t *testing.T) {
	for _, text := range []string{
		"N=0", "N=0\nN=0", "N=0\nN=#0", // no newline at the end
		"N0\n", "N\n", "0\n", "N 0\n", "N==0\n", "N=0=0\n", "N=0=\n", "=N=0\n", "N=0N=0\n", "N:0\n", "N=0;\n", // a `=` is missing, or there is a second one
		"\n", "N=0\n\n", "\nN=0\n", "N=0\n\nN=0\n", "\n\n", "N=0\n ", "N=0\n\x00", "N=0\n#", // an empty line, and other text behind the last one
		"=\n", "=0\n", "N=\n", "N=\n0\n", "N\n=0\n", "N=0\n=\n", "=", // a term is missing
		" N=0\n", "N =0\n", "N= 0\n", "N=0 \n", " \n", "N=0\n N=0\n", "N=0\r\n", "N=0\r", "\tN=0\n", "N=0\x00\n", "N=0\v\n", "N=0\u2028", // a space
		"N=00\n", "N=#00\n", "N=(0 0 0)\n", "N=[N] #0\n", "N=[N]\n", "N=(N>N\n", "*4=0\n", "*01=0\n", "N=N)\n", "N=n\n", "N=[x:N]x\n", "N=\xff\n", "(*0*N)=|\n", "N=#-1\n", "N=+\n0\n", // no text of a term
		"#0=0\n", "N=#0\n", "N=0\nN=#1\n", "N=0\n#1=0\n", "N=[N]#1\n", "N=0\nN=[N]#2\n", "(N>#1)=0\n", "N=#20\n", "N=0\nN=#0\nN=#2\n", // out of scope
		strings.Repeat("N=0\n", 9), "*3=" + textOf(sized(401)) + "\n", "N=" + textOf(succs(30, zero())) + "\n", textOf(succs(30, zero())) + "=N\n", // too many or too large
		"N=0\nx", "x\nN=0\n", "N=0\nx\nN=0\n", "N=0\nN\n", "def N=0\n", "N=0\nend\n",
		strings.Repeat("N=0\n", 8) + "\n", strings.Repeat("N=0\n", 8) + "x", strings.Repeat("N=0\n", 7) + "N=0",
		strings.Repeat("(", 1000000) + "=0\n", strings.Repeat("\n", 1000000), strings.Repeat("=", 1000000) + "\n", strings.Repeat("N=0", 100000) + "\n",
	} {
		checkNotRead(t, text)
	}
	for _, text := range []string{"N=0\n", "*3=0\n", "N=" + textOf(sized(400)) + "\n", textOf(succs(29, zero())) + "=N\n", strings.Repeat("N=0\n", 8), "N=0\nN=#0\nN=#1\n", "N=[N]#0\n", "N=0\n(#0>#1)=0\n"} {
		list, ok := impl.ParseDefs(text)
		if !ok || impl.FormatDefs(list) != text {
			t.Errorf("ParseDefs of %q = %q, %v", text, wantDefsText(list), ok)
		}
		checkList(t, list)
	}
}

// Each change of one byte leads to the text of other definitions, or to none.
func TestChangedTextsOfDefinitions(t *testing.T) {
	text := "N=++0\n(*0>#0)=[*1](#1 #0)\n{N,#1,0}=!(#0 N)\n"
	read := 0
	check := func(changed string) {
		t.Helper()
		list, ok := impl.ParseDefs(changed)
		if !ok {
			if len(list) != 0 {
				t.Errorf("ParseDefs of %q returns %d definitions and false", changed, len(list))
			}
			return
		}
		read++
		if !wantDefsValid(list) || wantDefsText(list) != changed {
			t.Errorf("ParseDefs of %q = %q", changed, wantDefsText(list))
		}
		checkList(t, list)
	}
	for i := range len(text) + 1 {
		for _, b := range []byte("\n =N0#1*+([{!)>,\x00\xff") {
			check(text[:i] + string([]byte{b}) + text[i:])
			if i < len(text) {
				check(text[:i] + string([]byte{b}) + text[i+1:])
			}
		}
		check(text[:i] + text[min(i+1, len(text)):])
		check(text[:i])
		check(text[i:])
	}
	if read < 60 {
		t.Errorf("only %d changed texts are read", read)
	}
}

func TestUnfolding(t *testing.T) {
	for _, c := range []struct {
		lines []string
		text  string
		want  string
	}{
		{[]string{"N=++0"}, "+#0", "+++0"}, {[]string{"N=++0"}, "#0", "++0"}, {[]string{"N=++0"}, "(#0 #0)", "(++0 ++0)"}, {[]string{"N=++0"}, "N", "N"},
		// The last definition is the variable 0, and the first one the greatest one.
		{[]string{"N=0", "N=+0", "N=++0"}, "{#0,#1,#2}", "{++0,+0,0}"}, {[]string{"N=0", "*0=N"}, "(#0 #1)", "(N 0)"}, {[]string{"N=0", "*0=N"}, "#1", "0"}, {[]string{"N=0", "*0=N", "*1=*0", "*2=*1"}, "(#3 (#2 (#1 #0)))", "(0 (N (*0 *1)))"},
		// A body counts from the definition before it.
		{[]string{"N=0", "N=+#0"}, "#0", "+0"}, {[]string{"N=0", "N=+#0", "N=+#0"}, "#0", "++0"}, {[]string{"N=0", "N=N", "N=+#1"}, "(#0 #1)", "(+0 N)"}, {[]string{"N=0", "N=N", "*0=(#0 #1)"}, "(#0 (#1 #2))", "((N 0) (N 0))"},
		{[]string{"N=0", "N=+#0", "N=+#0", "N=+#0"}, "(#3 (#2 (#1 #0)))", "(0 (+0 (++0 +++0)))"},
		// An earlier one is used several times, in several ways.
		{[]string{"N=+0", "N=(#0 #0)"}, "#0", "(+0 +0)"}, {[]string{"N=+0", "N=(#0 #0)", "N=(#0 #0)"}, "(#0 #0)", "(((+0 +0) (+0 +0)) ((+0 +0) (+0 +0)))"}, {[]string{"N=+0", "N=(#0 #0)", "N=(#0 #1)"}, "{#0,#1,#2}", "{((+0 +0) +0),(+0 +0),+0}"}, {[]string{"N=0", "N=[N](#0 #1)", "N=[N](#1 #2)"}, "[N](#1 #3)", "[N]([N]([N](#0 0) 0) 0)"},
		// One that is not used, at the beginning, between others and at the end.
		{[]string{"N=0", "N=+0"}, "#0", "+0"}, {[]string{"N=0", "N=+0"}, "#1", "0"}, {[]string{"N=0", "N=+0", "N=++#1"}, "#0", "++0"}, {[]string{"N=0", "N=(#0 #0)", "N=N"}, "*0", "*0"}, {[]string{"N=0", "N=+#0", "*0=N"}, "(#2 #0)", "(0 N)"},
		// Below binders, where the numbers are greater.
		{[]string{"N=++0"}, "[N]#1", "[N]++0"}, {[]string{"N=++0"}, "[N]#0", "[N]#0"}, {[]string{"N=++0"}, "[N](#0 [N](#1 #2))", "[N](#0 [N](#1 ++0))"}, {[]string{"*0=N", "#0=0"}, "(#1>(#2>{#3,#0,#2}))", "(N>(N>{N,#0,0}))"},
		{[]string{"*0=N"}, "[#0]#0", "[N]#0"}, {[]string{"*0=N"}, "(#0*#1)", "(N*N)"}, {[]string{"N=0", "(N>N)=[N](#0 #1)"}, "[N](#1 (#0 #2))", "[N]([N](#0 0) (#0 0))"}, {[]string{"N=0", "(N>N)=[N](#0 #1)", "N=[N][N](#2 #3)"}, "[N]#1", "[N][N][N]([N](#0 0) 0)"},
		// Nothing is reduced, and no types are checked.
		{[]string{"(N>N)=[N]+#0"}, "(#0 0)", "([N]+#0 0)"}, {[]string{"N=([N]#0 0)"}, "+#0", "+([N]#0 0)"}, {[]string{"N=*3", "0=(0 #0)"}, "!#0", "!(0 *3)"}, {[]string{"#1=0"}, "#0", ""}, {[]string{"N=0", "#0=N"}, "#0", "N"}, {[]string{"+0=0"}, "(#0 *3)", "(0 *3)"},
		// Free variables beyond the definitions.
		{[]string{"N=0"}, "#1", ""}, {[]string{"N=0"}, "[N]#2", ""}, {[]string{"N=0"}, "[N]#1", "[N]0"}, {[]string{"N=0", "N=0"}, "#2", ""}, {[]string{"N=0", "N=0"}, "(#0 #20)", ""}, {[]string{"N=0", "N=0"}, "(#0 [N]#2)", "(0 [N]0)"}, {[]string{"N=0", "N=0"}, "(#0 [N]#3)", ""},
	} {
		list, x := defsOf(t, c.lines...), parse(t, c.text)
		got, ok := impl.UnfoldTerm(list, x)
		checkText(t, "UnfoldTerm of "+saidDefs(list, x), got, ok, c.want)
		if c.want != "" {
			checkDefs(t, list, x, parse(t, c.want), mk(impl.TermLam, x, moved(x, 1)))
		}
	}
}

// A term may use as many definitions as there are.
func TestUnfoldingOfTheGreatestVariable(t *testing.T) {
	for n := range 9 {
		var list []impl.Def
		for i := range n {
			list = append(list, def(nat(), succs(i, zero())))
		}
		for binders := range 21 {
			for free := range min(21-binders, 11) {
				x := nested(impl.TermLam, 1, binders, variable(free+binders))
				what := fmt.Sprint("UnfoldTerm of ", n, " definitions and ", textOf(x))
				got, ok := impl.UnfoldTerm(list, x)
				checkTermResult(t, what, got, ok, nested(impl.TermLam, 1, binders, succs(n-1-free, zero())), free < n)
				checkWith(t, list, x)
			}
		}
	}
}

// filled has the given number of nodes, and its last leaf is x.
func filled(nodes int, x impl.Term) impl.Term {
	return mk(impl.TermApp, sized(nodes-1-impl.CountNodes(x)), x)
}

func TestSizesOfUnfoldedTerms(t *testing.T) {
	check := func(what string, list []impl.Def, x impl.Term, nodes, depth int) {
		t.Helper()
		whole := unfoldAtOnce(list, x)
		fits := nodes <= 400 && depth <= 30
		if got := impl.TermValid(whole); got != fits || fits && (impl.CountNodes(whole) != nodes && nodes > 0 || impl.TermDepth(whole) != depth && depth > 0) {
			t.Fatalf("the test is wrong: %s, %v", what, got)
		}
		got, ok := impl.UnfoldTerm(list, x)
		checkTermResult(t, what, got, ok, whole, fits)
		checkList(t, list)
		checkWith(t, list, x)
		if _, code := impl.InferDefined(list, x); !fits && code != impl.TypeOpen {
			t.Errorf("InferDefined: %s: %d", what, code)
		}
		if got := impl.UsedDefs(list, x); !slices.Equal(got, wantUsed(list, x)) {
			t.Errorf("UsedDefs: %s: %v", what, got)
		}
	}
	twice := mk(impl.TermApp, variable(0), variable(0))
	for extra := -1; extra <= 2; extra++ {
		one := []impl.Def{def(nat(), sized(150+extra))}
		check("nodes, used once", one, filled(251, variable(0)), 400+extra, 0)
		one[0].Body = sized(400 + min(extra, 0))
		check("nodes, all in the body", one, variable(0), 400+min(extra, 0), 0)
		check("nodes, too many around the body", one, succs(1, variable(0)), 401+min(extra, 0), 0)
		one[0].Body = sized(100)
		check("nodes, used twice", one, filled(202+extra, twice), 400+extra, 0)
		two := []impl.Def{def(nat(), sized(80)), def(nat(), twice)}
		check("nodes, used four times", two, filled(80+extra, twice), 400+extra, 0)
		check("nodes, used twice by a body", two, filled(240+extra, variable(0)), 400+extra, 0)
		eight := []impl.Def{def(nat(), zero())}
		for range 7 {
			eight = append(eight, def(nat(), twice))
		}
		check("nodes, used 128 times", eight, filled(400-254+extra, variable(0)), 400+extra, 0)
		check("nodes, a variable in the middle", eight, filled(400-6+extra, variable(5)), 400+extra, 0)

		one[0].Body = succs(13+extra, zero())
		check("depth, used once", one, succs(16, variable(0)), 0, 30+extra)
		check("depth, used in several places", one, mk(impl.TermApp, variable(0), succs(15, mk(impl.TermLam, variable(0), variable(1)))), 0, 31+extra)
		one[0].Body = succs(29+min(extra, 0), zero())
		check("depth, all in the body", one, variable(0), 0, 30+min(extra, 0))
		chained := []impl.Def{def(nat(), succs(3, zero()))}
		for range 7 {
			chained = append(chained, def(nat(), succs(3, variable(0))))
		}
		check("depth, one definition in the other", chained, succs(5+extra, variable(0)), 0, 30+extra)
		check("depth, another variable", chained, succs(8+extra, variable(1)), 0, 30+extra)
	}
	// A body that is too large when it is unfolded does not matter where it is
	// not used.
	large := defsOf(t, "N=0", "*0="+textOf(doubled(7, variable(0))), "*0=((#0 #0) (#0 #0))", "N=+#2")
	checkDefs(t, large, parse(t, "#0"), parse(t, "(#0 #3)"), parse(t, "(#2 #3)"))
	for text, want := range map[string]string{"#0": "+0", "(#0 #3)": "(+0 0)", "#2": textOf(doubled(7, zero())), "#1": "", "[#0]#2": "", "(#3 #1)": ""} {
		got, ok := impl.UnfoldTerm(large, parse(t, text))
		checkText(t, "UnfoldTerm of "+text, got, ok, want)
	}
}

// tooFar has no result for a term with 21 - first binders around #0, because
// the number of the first definition there would be 21, although nothing of
// the unfolded term is past a limit.
func tooFar(first int) []impl.Def {
	list := slices.Repeat([]impl.Def{def(nat(), zero())}, first+1)
	return append(list, def(nat(), variable(first)))
}

func TestResultsOnTheWay(t *testing.T) {
	for first := range 7 {
		list := tooFar(first)
		for _, kind := range []int{impl.TermPi, impl.TermLam, impl.TermSigma} {
			for binders := 18 - first; binders <= 20; binders++ {
				x := nested(kind, 1, binders, variable(binders))
				whole := unfoldAtOnce(list, x)
				if !impl.TermValid(whole) || !equalTerm(whole, nested(kind, 1, binders, zero())) {
					t.Fatalf("the test is wrong: %s", textOf(whole))
				}
				got, ok := impl.UnfoldTerm(list, x)
				checkTermResult(t, "UnfoldTerm of "+saidDefs(list, x), got, ok, whole, first+binders <= 20)
				checkWith(t, list, x)
				checkWith(t, list, mk(impl.TermApp, x, variable(1)))
				if used := impl.UsedDefs(list, x); !slices.Equal(used, []int{0, first + 1}) {
					t.Errorf("UsedDefs of %s = %v", saidDefs(list, x), used)
				}
				_, code := impl.InferDefined(list, x)
				if kind == impl.TermLam && (code != impl.TypeOk) != (first+binders > 20) {
					t.Errorf("InferDefined of %s = %d", saidDefs(list, x), code)
				}
				if first+binders > 20 && code != impl.TypeOpen {
					t.Errorf("InferDefined of %s = %d", saidDefs(list, x), code)
				}
				if len(list) < 8 {
					next := append(slices.Clone(list), def(nat(), x))
					checkList(t, next)
					if code := impl.CheckDefs(next); first+binders > 20 && code != impl.TypeOpen || code == impl.TypeOk {
						t.Errorf("CheckDefs of %q = %d", wantDefsText(next), code)
					}
					next = append(slices.Clone(list), def(x, zero()))
					checkList(t, next)
				}
			}
		}
	}
	// The last definition is not used, and its body does not matter.
	got, ok := impl.UnfoldTerm(tooFar(3), nested(impl.TermLam, 1, 15, variable(19)))
	checkTermResult(t, "UnfoldTerm of the first definition", got, ok, nested(impl.TermLam, 1, 15, zero()), true)
	// A variable of a body that is inserted below a binder, and below none.
	list := defsOf(t, "N=0", "N="+chain("[N]", 20, "#20", ""), "N=0", "N=#1")
	checkDefs(t, list, variable(0), parse(t, "[N]#1"))
	got, ok = impl.UnfoldTerm(list, variable(0))
	checkTermResult(t, "UnfoldTerm of a deep body", got, ok, nested(impl.TermLam, 1, 20, zero()), true)
	got, ok = impl.UnfoldTerm(list, parse(t, "[N]#1"))
	checkRefused(t, "UnfoldTerm of a deep body below a binder", got, ok)
}

func TestCheckDefs(t *testing.T) {
	slow200, slow201 := slow(t, 200, "N", 0), late(t)
	wide := "*0=" + textOf(wideType(t, 200))
	for _, c := range []struct {
		lines []string
		want  int
	}{
		{[]string{"N=0"}, impl.TypeOk}, {[]string{"*1=*0", "*0=N", "N=0"}, impl.TypeOk}, {[]string{"(N>(N>N))=[N][N]<[N]N,#1,[N][N]+#0,#0>", "(N>N)=[N]((#1 #0) #0)"}, impl.TypeOk},
		// Types that hold without unfolding.
		{[]string{"N=0", "N=+#0", "N=+#0"}, impl.TypeOk}, {[]string{"*0=N", "(#0>#1)=[#0]#0", "{(#1>#2),#0,#0}=!#0"}, impl.TypeOk}, {[]string{"N=0", "{N,#0,#0}=!#0", "{{N,#1,#1},#0,#0}=!#0"}, impl.TypeOk},
		// Types that hold only when definitions are unfolded.
		{[]string{"N=++0", "{N,#0,++0}=!#0"}, impl.TypeOk}, {[]string{"N=++0", "{N,#0,++0}=!++0"}, impl.TypeOk}, {[]string{"N=++0", "{N,++0,#0}=!#0"}, impl.TypeOk}, {[]string{"*0=N", "#0=0"}, impl.TypeOk}, {[]string{"*0=N", "N=0", "#1=+#0"}, impl.TypeOk}, {[]string{"*1=*0", "#0=N"}, impl.TypeOk}, {[]string{"*1=*0", "#0=N", "#0=+0"}, impl.TypeOk},
		{[]string{"(*0>*0)=[*0](#0>#1)", "(#0 N)=[N]#0"}, impl.TypeOk}, {[]string{"(*0>*0)=[*0](#0>#1)", "(#0 N)=[N]#0", "N=(#0 0)"}, impl.TypeOk}, {[]string{"(N>*0)=[N]<[N]*0,N,[N][*0](N>#1),#0>", "(#0 +0)=[N]#0"}, impl.TypeOk}, {[]string{"N=0", "N=+#0", "N=+#0", "{N,#0,++#2}=!++0"}, impl.TypeOk}, {[]string{"*0=(N*N)", "#0=|#0,0,+0|", "N=_#0", "{N,#0,+0}=!#0"}, impl.TypeOk},
		{[]string{"*0=(N>N)", "#0=[N]#0", "N=(#0 0)"}, impl.TypeOk}, {[]string{"*0={N,0,0}", "#0=!0", "N=@<[N]N,#0,0>"}, impl.TypeOk},
		// A first code of each kind.
		{[]string{"N=N"}, impl.TypeBad}, {[]string{"*0=0"}, impl.TypeBad}, {[]string{"0=0"}, impl.TypeBad}, {[]string{"N=+N"}, impl.TypeBad}, {[]string{"*3=*2"}, impl.TypeBad}, {[]string{"(0 0)=0"}, impl.TypeBad}, {[]string{"N=(0 0)"}, impl.TypeBad}, {[]string{"N=++0", "{N,#0,+0}=!#0"}, impl.TypeBad}, {[]string{"*0=(N>N)", "#0=0"}, impl.TypeBad}, {[]string{"N=0", "#0=0"}, impl.TypeBad}, {[]string{"*0=N", "N=#0"}, impl.TypeBad}, {[]string{"N=0", "N=0", "N=0", "N=0", "N=0", "N=0", "N=0", "*0=0"}, impl.TypeBad},
		{[]string{slow200 + "=0"}, impl.TypeOk}, {[]string{slow201 + "=0"}, impl.TypeOpen}, {[]string{"*0=" + slow200, "#0=0"}, impl.TypeOk}, {[]string{"*0=" + slow201, "#0=0"}, impl.TypeOpen}, {[]string{"*0=" + slow201, "N=0", "#1=#0"}, impl.TypeOpen}, {[]string{"*0=" + slow201, "N=0"}, impl.TypeOk}, {[]string{"N=" + chain("[N]", 21, "0", "")}, impl.TypeOpen},
		// One that cannot be unfolded, as the Body, as the Type and as both, also where it would be wrong.
		{[]string{wide, "*0=(#0>#1)"}, impl.TypeOpen}, {[]string{wide, "(#0>#1)=[#0]#0"}, impl.TypeOpen}, {[]string{wide, "(#0>#1)=(#0>#1)"}, impl.TypeOpen}, {[]string{"*0=" + textOf(wideType(t, 198)), "*0=(#0>#1)"}, impl.TypeOk}, {[]string{wide, "0=(#0>#1)"}, impl.TypeOpen}, {[]string{wide, "(#0>#1)=N"}, impl.TypeOpen},
		{[]string{"N=" + textOf(succs(20, zero())), "N=" + textOf(succs(10, variable(0)))}, impl.TypeOpen}, {[]string{"N=" + textOf(succs(20, zero())), "N=" + textOf(succs(9, variable(0)))}, impl.TypeOk}, {[]string{"N=" + textOf(succs(20, zero())), textOf(succs(10, variable(0))) + "=0"}, impl.TypeOpen},
		{[]string{"N=0", "N=#0", "N=#1", chain("(N>", 19, "N", ")") + "=" + chain("[N]", 19, "#19", "")}, impl.TypeOk}, {[]string{"N=0", "N=#0", "N=#1", chain("(N>", 20, "N", ")") + "=" + chain("[N]", 20, "#20", "")}, impl.TypeOpen}, {[]string{"N=0", "N=#0", "N=#0", chain("(N>", 20, "N", ")") + "=" + chain("[N]", 20, "#20", "")}, impl.TypeOk},
		// A later one that is wrong behind one that is wrong.
		{[]string{"N=N", slow201 + "=0"}, impl.TypeBad}, {[]string{slow201 + "=0", "N=N"}, impl.TypeOpen}, {[]string{"N=0", "N=N", slow201 + "=0", "N=N"}, impl.TypeBad}, {[]string{"N=0", slow201 + "=0", "N=N", slow201 + "=0"}, impl.TypeOpen}, {[]string{"N=N", "N=#0"}, impl.TypeBad},
		{[]string{"N=N", "N=" + textOf(succs(20, zero())), "N=" + textOf(succs(10, variable(0)))}, impl.TypeBad}, {[]string{"N=" + textOf(succs(20, zero())), "N=" + textOf(succs(10, variable(0))), "N=N"}, impl.TypeOpen},
	} {
		list := defsOf(t, c.lines...)
		if got := impl.CheckDefs(list); got != c.want {
			t.Errorf("CheckDefs of %q = %d, want %d", c.lines, got, c.want)
		}
		checkDefs(t, list)
		// What is not valid goes before all other codes, also before earlier ones.
		for _, d := range []impl.Def{def(nat(), variable(len(list))), def(variable(len(list)), zero()), def(nat(), mk(77)), def(succs(30, zero()), zero())} {
			checkNoDefs(t, "a definition that is not valid", append(slices.Clone(list), d))
		}
	}
}

// What holds only when definitions are unfolded does not hold in the context
// of their types.
func TestTypesThatNeedTheBodies(t *testing.T) {
	for _, c := range []struct {
		lines []string
		text  string
		is    string
	}{
		{[]string{"N=++0"}, "!#0", "{N,#0,++0}"}, {[]string{"N=++0"}, "!++0", "{N,#0,#0}"}, {[]string{"*0=N"}, "0", "#0"}, {[]string{"*0=N", "#0=0"}, "+#0", "N"}, {[]string{"(*0>*0)=[*0](#0>#1)"}, "[N]#0", "(#0 N)"},
	} {
		list, x, is := defsOf(t, c.lines...), parse(t, c.text), parse(t, c.is)
		types, ok := impl.DefTypes(list)
		if !ok {
			t.Fatalf("there are no types of %q", c.lines)
		}
		if code := impl.CheckType(types, x, is); code != impl.TypeBad {
			t.Errorf("CheckType of %s and %s = %d", said(types, x), c.is, code)
		}
		if code := impl.CheckDefs(append(slices.Clone(list), def(is, x))); code != impl.TypeOk {
			t.Errorf("CheckDefs of %q and %s=%s = %d", c.lines, c.is, c.text, code)
		}
		checkDefs(t, list, x, is)
	}
}

func TestTypesOfDefinitions(t *testing.T) {
	for _, lines := range [][]string{
		{"N=0"}, {"*1=*0", "*0=N", "N=0"}, {"N=++0", "{N,#0,++0}=!#0"}, {"*0=N", "#0=0", "#1=0", "(#2>#3)=[#2]#0"},
		// Definitions that do not have their types, and types that are none.
		{"N=N"}, {"0=0"}, {"N=0", "#0=*3", "!(#0 #1)=*3"}, {late(t) + "=0"}, {"*3=*2", "*3=*3"}, {"N=0", "N=0", "N=0", "N=0", "N=0", "N=0", "N=0", "(#6 #0)=(0 0)"},
		{"N=" + textOf(succs(20, zero())), textOf(succs(10, variable(0))) + "=0"},
	} {
		list := defsOf(t, lines...)
		types, ok := impl.DefTypes(list)
		if !ok || len(types) != len(list) {
			t.Fatalf("DefTypes of %q = %s, %v", lines, textsOf(types), ok)
		}
		for i, line := range lines {
			if want, _, _ := strings.Cut(line, "="); textOf(types[i]) != want {
				t.Errorf("DefTypes of %q = %s", lines, textsOf(types))
			}
		}
		checkDefs(t, list)
		code := impl.TypeOk
		for i, a := range types {
			if _, c := impl.SortOf(types[:i], a); code == impl.TypeOk {
				code = c
			}
		}
		if got := impl.CheckContext(types); got != code {
			t.Errorf("CheckContext of %s = %d, want %d", textsOf(types), got, code)
		}
	}
}

func TestInferDefined(t *testing.T) {
	deep := textOf(succs(20, zero()))
	for _, c := range []struct {
		lines []string
		text  string
		want  string // as of a typingCase
	}{
		{[]string{"N=++0"}, "+#0", "N"}, {[]string{"N=++0"}, "#0", "N"}, {[]string{"N=++0"}, "!#0", "{N,++0,++0}"}, {[]string{"*0=N"}, "[#0]#0", "(N>N)"}, {[]string{"*0=N"}, "[#0]+#0", "(N>N)"}, {[]string{"*0=N", "#0=0"}, "+#0", "N"}, {[]string{"N=0", "N=+#0"}, "{N,#0,#1}", "*0"},
		{[]string{"(N>(N>N))=[N][N]<[N]N,#1,[N][N]+#0,#0>", "(N>N)=[N]((#1 #0) #0)"}, "#0", "(N>([N]N #0))"}, {[]string{"(N>N)=[N]+#0"}, "(#0 0)", "N"}, {[]string{"(N>N)=[N]+#0"}, "!(#0 0)", "{N,([N]+#0 0),([N]+#0 0)}"},
		// The types of the definitions are not used, and they need not be right.
		{[]string{"N=*0"}, "#0", "*1"}, {[]string{"0=0"}, "#0", "N"}, {[]string{"N=(0 0)", "*3=0"}, "#0", "N"}, {[]string{"*0=0"}, "+#0", "N"}, {[]string{late(t) + "=0"}, "+#0", "N"}, {[]string{"N=0", "N=+N"}, "+#1", "N"},
		// Each code.
		{[]string{"N=N"}, "+#0", "bad"}, {[]string{"N=(0 0)"}, "#0", "bad"}, {[]string{"N=0"}, "(#0 #0)", "bad"}, {[]string{"N=0"}, "*3", "bad"}, {[]string{"*0=N", "(N>N)=[N]#0"}, "(#0 #1)", "bad"},
		{[]string{"*0=" + late(t)}, "[#0]+#0", "open"}, {[]string{"N=0"}, chain("[N]", 20, "[#20]#0", ""), "bad"}, {[]string{"N=0"}, chain("[N]", 20, "[N]#0", ""), "open"}, {[]string{"N=" + deep}, textOf(succs(10, variable(0))), "open"}, {[]string{"N=" + deep}, textOf(succs(9, variable(0))), "N"}, {[]string{"N=0", "N=N", "N=#1"}, chain("[N]", 19, "#19", ""), chain("(N>", 19, "N", ")")},
		{[]string{"N=" + textOf(sized(200))}, "(#0 #0)", "open"}, {[]string{"N=0", "N=0", "N=#1"}, chain("[N]", 20, "#20", ""), "open"}, {[]string{"N=0", "N=0", "N=#0"}, chain("[N]", 20, "#20", ""), chain("(N>", 20, "N", ")")},
		{nil, "#0", "invalid"}, {[]string{"N=0"}, "#1", "invalid"}, {[]string{"N=0"}, "(+N #1)", "invalid"}, {[]string{"N=0", "N=0"}, "[N]#3", "invalid"}, {[]string{"N=#0"}, "0", "invalid"}, {[]string{"N=0", "#1=0"}, "0", "invalid"}, {slices.Repeat([]string{"N=0"}, 9), "0", "invalid"}, {slices.Repeat([]string{"N=0"}, 8), "#7", "N"}, {slices.Repeat([]string{"N=0"}, 8), "#8", "invalid"},
	} {
		list, x := defsOf(t, c.lines...), parse(t, c.text)
		code := typingCase{want: c.want}.code()
		var want impl.Term
		if code == impl.TypeOk {
			want = parse(t, c.want)
		}
		found, got := impl.InferDefined(list, x)
		checkTyped(t, fmt.Sprintf("InferDefined of %q and %s", c.lines, c.text), found, got, want, code)
		if wantDefsValid(list) {
			checkDefs(t, list, x)
		} else {
			checkNoDefs(t, fmt.Sprintf("%q", c.lines), list)
		}
	}
}

func TestUsedDefs(t *testing.T) {
	for _, c := range []struct {
		lines []string
		text  string
		want  []int
	}{
		{[]string{"N=0"}, "#0", []int{0}}, {[]string{"N=0"}, "N", nil}, {[]string{"N=0"}, "[N]#0", nil}, {[]string{"N=0"}, "[N]#1", []int{0}}, {[]string{"N=0"}, "(#0 #0)", []int{0}},
		{[]string{"N=0", "N=0", "N=0"}, "#0", []int{2}}, {[]string{"N=0", "N=0", "N=0"}, "#1", []int{1}}, {[]string{"N=0", "N=0", "N=0"}, "#2", []int{0}}, {[]string{"N=0", "N=0", "N=0"}, "(#0 #2)", []int{0, 2}}, {[]string{"N=0", "N=0", "N=0"}, "(#2 #0)", []int{0, 2}}, {[]string{"N=0", "N=0", "N=0"}, "{#1,#0,#2}", []int{0, 1, 2}},
		// Only through another one, and through two others.
		{[]string{"N=0", "N=+#0"}, "#0", []int{0, 1}}, {[]string{"N=0", "N=+#0"}, "#1", []int{0}}, {[]string{"N=0", "N=+#0", "N=+#0"}, "#0", []int{0, 1, 2}}, {[]string{"N=0", "N=+#0", "N=+#1"}, "#0", []int{0, 2}}, {[]string{"N=0", "N=0", "N=[N](#0 #1)", "N=[N][N]#3"}, "#0", []int{1, 3}}, {[]string{"N=0", "N=0", "N=(#0 #1)", "N=#0", "N=#1"}, "[N](#0 #1)", []int{0, 1, 2, 4}},
		{[]string{"N=0", "N=+#0", "N=+0", "N=++#1"}, "#0", []int{0, 1, 3}}, {[]string{"N=0", "N=+#0", "N=+0", "N=++#1"}, "#1", []int{2}}, {[]string{"N=0", "N=#0", "N=#0", "N=#0", "N=#0", "N=#0", "N=#0", "N=#0"}, "#0", []int{0, 1, 2, 3, 4, 5, 6, 7}}, {[]string{"N=0", "N=#0", "N=0", "N=#1", "N=0", "N=#1", "N=0", "N=#1"}, "#0", []int{0, 1, 3, 5, 7}}, {[]string{"N=0", "N=#0", "N=0", "N=#2", "N=#2", "N=0"}, "(#1 #2)", []int{0, 1, 3, 4}},
		// Only in a Type.
		{[]string{"*0=N", "#0=0"}, "#0", []int{1}}, {[]string{"*0=N", "#0=0", "#1=+#0"}, "#0", []int{1, 2}}, {[]string{"N=0", "{N,#0,0}=!0"}, "#0", []int{1}}, {[]string{"N=0", "{N,#0,0}=!#0"}, "#0", []int{0, 1}}, {[]string{"*0=N", "(#0>#1)=[N]#0"}, "(#0 0)", []int{1}},
		// Used by one that is not used, and by one before it.
		{[]string{"N=0", "N=+0", "N=(#0 #1)"}, "0", nil}, {[]string{"N=0", "N=+#0", "N=(#0 #1)"}, "#2", []int{0}}, {[]string{"N=0", "N=+#0", "N=(#0 #1)"}, "#1", []int{0, 1}},
		// Bound variables are none of definitions.
		{[]string{"N=0", "N=[N]#0"}, "#0", []int{1}}, {[]string{"N=0", "N=[N]#1"}, "#0", []int{0, 1}}, {[]string{"N=0", "N=(N>(N*#1))"}, "#0", []int{1}}, {[]string{"N=0", "N=0"}, "[N](#0 [#0](#1 #0))", nil}, {[]string{"N=0", "N=0"}, "[N](#0 [#0](#1 #2))", []int{1}}, {[]string{"N=0", "N=0"}, "[#1][#1]#2", []int{0, 1}},
		// Also of what cannot be unfolded or has no type.
		{[]string{"N=" + textOf(sized(200)), "N=(#0 #0)"}, "(#0 #0)", []int{0, 1}}, {[]string{"N=(0 0)", "*3=+N"}, "(#0 *3)", []int{1}},
		{[]string{"N=0"}, "#1", nil}, {[]string{"N=0"}, "(#0 #1)", nil}, {nil, "#0", nil}, {[]string{"N=#0"}, "#0", nil}, {[]string{"N=0", "N=#1"}, "#0", nil}, {[]string{"N=0", "#1=0"}, "#1", nil}, {slices.Repeat([]string{"N=0"}, 9), "#0", nil},
	} {
		list, x := defsOf(t, c.lines...), parse(t, c.text)
		if got := impl.UsedDefs(list, x); !slices.Equal(got, c.want) {
			t.Errorf("UsedDefs of %q and %s = %v, want %v", c.lines, c.text, got, c.want)
		}
		if wantDefsValid(list) {
			checkDefs(t, list, x)
		}
	}
}

// randomScoped returns a term that uses no more than n definitions.
func randomScoped(r *rand.Rand, depth, n int) impl.Term {
	for range 30 {
		if x := randomOpen(r, depth, n+3); wantCovers(n, x) {
			return x
		}
	}
	return nat()
}

func TestRandomDefinitions(t *testing.T) {
	r := rand.New(rand.NewSource(14))
	counts := map[string]int{}
	for range 1200 {
		var list []impl.Def
		for i := range 1 + r.Intn(8) {
			list = append(list, def(randomScoped(r, 1+r.Intn(3), i), doubled(r.Intn(3), randomScoped(r, 1+r.Intn(4), i))))
		}
		checkList(t, list)
		for range 4 {
			x := randomScoped(r, 1+r.Intn(4), len(list))
			checkWith(t, list, x)
			if _, ok := impl.UnfoldTerm(list, x); ok {
				counts["unfolded"]++
			} else {
				counts["too large"]++
			}
			if used := impl.UsedDefs(list, x); len(used) > 1 && len(used) < len(list) {
				counts["some used"]++
			}
		}
		for range 3 {
			other := copyDefs(list)
			i := r.Intn(len(list))
			d := &other[i]
			if r.Intn(2) == 0 {
				d.Type = changeAny(r, d.Type)
			} else {
				d.Body = changeAny(r, d.Body)
			}
			if wantDefsValid(other) {
				checkList(t, other)
				checkWith(t, other, variable(0))
				counts["changed"]++
			} else {
				checkNoDefs(t, wantDefsText(other), other)
				checkNotRead(t, wantDefsText(other))
				counts["refused"]++
			}
		}
		if t.Failed() {
			t.Fatalf("the first list with a failure is %q", wantDefsText(list))
		}
	}
	if counts["unfolded"] < 2000 || counts["too large"] < 50 || counts["some used"] < 500 || counts["changed"] < 500 || counts["refused"] < 200 {
		t.Errorf("some lists were too seldom: %v", counts)
	}
}

// The unfolded term depends on the bodies of exactly the definitions that are
// used.
func TestUnfoldingNeedsTheUsedDefinitions(t *testing.T) {
	r := rand.New(rand.NewSource(15))
	mark := parse(t, "!!!*3")
	needed, others := 0, 0
	for range 1200 {
		var list []impl.Def
		for i := range 1 + r.Intn(6) {
			list = append(list, def(nat(), randomScoped(r, 1+r.Intn(3), i)))
		}
		x := randomScoped(r, 1+r.Intn(3), len(list))
		want, exists := impl.UnfoldTerm(list, x)
		used := impl.UsedDefs(list, x)
		for i := range list {
			changed := slices.Clone(list)
			changed[i].Body = mark
			got, ok := impl.UnfoldTerm(changed, x)
			if !slices.Contains(used, i) {
				checkTermResult(t, "UnfoldTerm of "+saidDefs(changed, x), got, ok, want, exists)
				others++
			} else if exists && ok {
				needed++
				if equalTerm(got, want) {
					t.Errorf("UnfoldTerm of %s does not need the definition %d", saidDefs(list, x), i)
				}
			}
		}
	}
	if needed < 500 || others < 500 {
		t.Errorf("%d definitions were needed, and %d were not", needed, others)
	}
}

// definitions returns a list whose definitions have their types, some of them
// only when they are unfolded.
func (m maker) definitions(count, depth int) []impl.Def {
	var list []impl.Def
	for range count {
		d, ok := m.definition(list, depth)
		if ok && impl.CheckDefs(append(slices.Clone(list), d)) == impl.TypeOk {
			list = append(list, d)
		}
	}
	return list
}

func (m maker) definition(list []impl.Def, depth int) (impl.Def, bool) {
	types, _ := impl.DefTypes(list)
	if len(list) > 0 && m.r.Intn(4) == 0 { // a definition is equal to its body
		i := m.r.Intn(len(list))
		body, ok := impl.UnfoldTerm(list, variable(i))
		is, fine := impl.UnfoldTerm(list[:len(list)-1-i], list[len(list)-1-i].Type)
		return def(mk(impl.TermId, is, variable(i), body), mk(impl.TermRefl, []impl.Term{variable(i), body}[m.r.Intn(2)])), ok && fine
	}
	want, ok := m.someType(types, depth)
	if !ok {
		return impl.Def{}, false
	}
	x, ok := m.element(types, want, depth)
	return def(want, x), ok
}

// checkUnfolds wants the unfolded term to have the unfolded type, and so a
// further definition with both to be right.
func (c *tally) checkUnfolds(t *testing.T, list []impl.Def, x, is impl.Term) {
	t.Helper()
	y, ok := impl.UnfoldTerm(list, x)
	want, fine := impl.UnfoldTerm(list, is)
	if !ok || !fine {
		c.open++
		return
	}
	c.checkKeeps(t, "unfolding of "+saidDefs(list, x), nil, y, want)
	found, code := impl.InferDefined(list, x)
	if code == impl.TypeOk {
		if same := impl.Convertible(found, want, 200); same != impl.ConvYes && same != impl.ConvOpen {
			t.Errorf("InferDefined of %s = %s, want %s", saidDefs(list, x), textOf(found), textOf(want))
		}
	} else if code != impl.TypeOpen {
		t.Errorf("InferDefined of %s = %d", saidDefs(list, x), code)
	}
	if len(list) < 8 && impl.CheckDefs(list) == impl.TypeOk {
		further := append(slices.Clone(list), def(is, x))
		_, sortCode := impl.SortOf(nil, want)
		if code := impl.CheckDefs(further); code != sortCode && code != impl.TypeOpen {
			t.Errorf("CheckDefs of %q = %d, want %d", wantDefsText(further), code, sortCode)
		}
	}
}

func TestUnfoldingPreservesTypes(t *testing.T) {
	for _, c := range []struct {
		lines []string
		text  string
		is    string // in the context of the types
		want  string // of the unfolded term
	}{
		{[]string{"N=++0"}, "+#0", "N", "N"}, {[]string{"N=++0"}, "!#0", "{N,#0,#0}", "{N,++0,++0}"}, {[]string{"*0=N"}, "[#0]#0", "(#0>#1)", "(N>N)"}, {[]string{"*0=N", "#0=0"}, "!#0", "{#1,#0,#0}", "{N,0,0}"}, {[]string{"*0=N", "#0=0"}, "[#1]#1", "(#1>#2)", "(N>N)"}, {[]string{"*0=N", "#0=0"}, "#0", "#1", "N"},
		{[]string{"*0=N", "(#0>#1)=[N]+#0", "#1=(#0 0)"}, "(#1 #0)", "#2", "N"}, {[]string{"*0=N", "(#0>#1)=[#0]#0"}, "[#1](#1 (#1 #0))", "(#1>#2)", "(N>N)"}, {[]string{"N=+0", "{N,#0,+0}=!#0"}, "@<[N]{N,#0,#2},#0,!#1>", "([N]{N,#0,#2} +0)", "([N]{N,#0,+0} +0)"}, {[]string{"N=+0", "{N,#0,+0}=!+0"}, "!#0", "{{N,#1,+0},#0,#0}", "{{N,+0,+0},!+0,!+0}"},
		{[]string{"(N>*0)=[N]N", "(N>(#1 #0))=[N]#0"}, "(#0 +0)", "(#1 +0)", "N"}, {[]string{"(N>*0)=[N]N", "(N*(#1 #0))=|(N*([N]N #0)),0,+0|"}, "_#0", "(#1 ^#0)", "([N]N ^|(N*([N]N #0)),0,+0|)"}, {[]string{"N=++0", "N=+0"}, "N", "*0", "*0"},
	} {
		list, x, is := defsOf(t, c.lines...), parse(t, c.text), parse(t, c.is)
		types, _ := impl.DefTypes(list)
		if code := impl.CheckDefs(list); code != impl.TypeOk {
			t.Errorf("CheckDefs of %q = %d", c.lines, code)
		}
		found, code := impl.InferType(types, x)
		checkTyped(t, "InferType of "+said(types, x), found, code, is, impl.TypeOk)
		var seen tally
		seen.checkUnfolds(t, list, x, is)
		seen.checkKeeps(t, "unfolding of "+saidDefs(list, x), nil, unfoldAtOnce(list, x), parse(t, c.want))
		if seen.open > 0 {
			t.Errorf("%s is past a limit", saidDefs(list, x))
		}
	}
}

func TestRandomUnfoldingPreservesTypes(t *testing.T) {
	m := maker{rand.New(rand.NewSource(16))}
	var c tally
	counts := map[string]int{}
	for round := range 900 {
		list := m.definitions(1+round%6, 2+round%2)
		types, ok := impl.DefTypes(list)
		if !ok || impl.CheckContext(types) != impl.TypeOk {
			counts["no context"]++
			continue
		}
		for i, d := range list {
			if impl.CheckType(types[:i], d.Body, d.Type) != impl.TypeOk {
				counts["right only when unfolded"]++
			}
			if is, code := impl.InferType(types[:i], d.Body); code == impl.TypeOk {
				c.checkUnfolds(t, list[:i], d.Body, is)
			}
		}
		want, ok := m.someType(types, 3)
		if !ok {
			continue
		}
		x, ok := m.element(types, want, 3)
		if !ok {
			continue
		}
		is, code := impl.InferType(types, x)
		if code != impl.TypeOk {
			continue
		}
		c.checkUnfolds(t, list, x, is)
		if len(impl.UsedDefs(list, x)) > 0 {
			counts["used"]++
		}
		if round%3 == 0 {
			checkList(t, list)
			checkWith(t, list, x)
			y := m.changed(x)
			checkWith(t, list, y)
			if further := append(slices.Clone(list), def(want, y)); wantDefsValid(further) {
				checkList(t, further)
				counts[[]string{"right", "bad", "open"}[impl.CheckDefs(further)]]++
			}
		}
		if t.Failed() {
			t.Fatalf("the first list with a failure is %s", saidDefs(list, x))
		}
	}
	c.checkDecided(t, 1000)
	if counts["used"] < 150 || counts["right only when unfolded"] < 200 || counts["right"] < 20 || counts["bad"] < 80 {
		t.Errorf("some cases were too seldom: %v", counts)
	}
}

// termsOfDefs returns all terms of the list, and writes over the memory of the
// list, also beyond its length.
func termsOfDefs(list []impl.Def) []impl.Term {
	var all []impl.Term
	for _, d := range list {
		all = append(all, d.Type, d.Body)
	}
	clear(list[:cap(list)])
	return all
}

func TestDefinitionsShareNoMemory(t *testing.T) {
	for _, c := range []struct {
		lines []string
		text  string
	}{
		{nil, "[(N>N)](#0 +0)"}, {[]string{"N=++0"}, "+#0"}, {[]string{"(N>N)=[N]+#0"}, "#0"}, {[]string{"(N>N)=[N]+#0"}, "[(N>N)]#0"}, {[]string{"(N>N)=[N]+#0", "(N>N)=#0"}, "(#0 +0)"}, {[]string{"N=++0", "N=(#0 #0)", "N=(#0 #0)"}, "(#0 [N](#1 #3))"},
		{[]string{"N=+0", "N=+0", "N=+#0"}, "{N,#0,+0}"}, {[]string{"(N*N)=|(N*N),+0,+0|", "N=_#0"}, "!#0"}, {[]string{"N=+0", "{N,#0,#0}=!#0"}, "|(N*{N,#2,#2}),#1,#0|"}, {slices.Repeat([]string{"(N>N)=[N]+#0"}, 8), "[(N>N)](#0 (#8 +0))"},
	} {
		store := append(defsOf(t, c.lines...), def(mk(77), mk(78)), def(nat(), zero()))
		list, x, text := store[:len(c.lines)], parse(t, c.text), wantDefsText(defsOf(t, c.lines...))
		unchanged := func() bool {
			rest := store[len(list):]
			return equalDefs(list, defsOf(t, c.lines...)) && equalTerm(x, parse(t, c.text)) && rest[0].Type.Kind == 77 && rest[0].Body.Kind == 78 && equalDefs(rest[1:], []impl.Def{def(nat(), zero())})
		}
		checkLists(t, "UnfoldTerm of "+c.text, func() []impl.Term {
			got, _ := impl.UnfoldTerm(list, x)
			return []impl.Term{got}
		}, unchanged)
		if got, code := impl.InferDefined(list, x); code == impl.TypeOk && !isZeroTerm(got) {
			checkLists(t, "InferDefined of "+c.text, func() []impl.Term {
				got, _ := impl.InferDefined(list, x)
				return []impl.Term{got}
			}, unchanged)
		}
		if len(list) > 0 {
			checkLists(t, "DefTypes of "+text, func() []impl.Term {
				types, _ := impl.DefTypes(list)
				return emptied(t, types, nat())
			}, unchanged)
			checkLists(t, "ParseDefs of "+text, func() []impl.Term {
				got, _ := impl.ParseDefs(text)
				return termsOfDefs(got)
			}, unchanged)
		}
		first, second := impl.UsedDefs(list, x), impl.UsedDefs(list, x)
		want := slices.Clone(second)
		clear(first[:cap(first)])
		if !slices.Equal(second, want) || !slices.Equal(impl.UsedDefs(list, x), want) {
			t.Errorf("two results of UsedDefs of %s share memory", saidDefs(list, x))
		}
		impl.DefsValid(list)
		impl.FormatDefs(list)
		impl.CheckDefs(list)
		// A refused call does not change anything, either.
		impl.UnfoldTerm(list, variable(20))
		impl.UnfoldTerm(store, x)
		impl.DefTypes(store)
		impl.CheckDefs(store)
		impl.UsedDefs(store, x)
		if !unchanged() {
			t.Errorf("arguments are changed: %s", saidDefs(list, x))
		}
	}
}

// The terms of a list, and the term with it, may share memory with each other.
func TestDefinitionsWithSharedTerms(t *testing.T) {
	kids := []impl.Term{variable(0), variable(0)}
	shared := impl.Term{Kind: impl.TermApp, Kids: kids}
	one := parse(t, "(N>N)")
	list := []impl.Def{def(one, one), def(one, one), def(shared, shared), def(shared, shared), def(one, shared)}
	text := wantDefsText(list)
	x := mk(impl.TermApp, shared, mk(impl.TermApp, one, shared))
	checkDefs(t, list, x, shared, one)
	got, ok := impl.UnfoldTerm(list, x)
	checkTermResult(t, "UnfoldTerm of shared terms", got, ok, unfoldAtOnce(list, x), true)
	checkSeparateParts(t, got)
	types, ok := impl.DefTypes(list)
	if !ok || len(types) != len(list) {
		t.Fatalf("DefTypes of shared terms = %s, %v", textsOf(types), ok)
	}
	checkSeparateParts(t, mk(impl.TermApp, types...))
	read, ok := impl.ParseDefs(text)
	if !ok {
		t.Fatalf("ParseDefs of %q returns false", text)
	}
	checkSeparateParts(t, mk(impl.TermApp, termsOfDefs(read)...))
	for levels := range 7 {
		body := doubled(levels, nat())
		typed := []impl.Def{def(sort(0), nat()), def(sort(0), mk(impl.TermPi, variable(0), variable(0))), def(body, body)}
		checkDefs(t, typed, body, doubled(levels, variable(0)))
		if got, ok := impl.UnfoldTerm(typed, body); ok {
			checkSeparateParts(t, got)
		}
	}
	if wantDefsText(list) != text || kids[0].Kind != impl.TermVar || kids[1].Kind != impl.TermVar {
		t.Error("shared terms are changed")
	}
}

package tests

import (
	"math"
	"math/rand"
	"slices"
	"strings"
	"testing"

	"loop.example/depkernel/impl"
)

// Promise 2: substitutions commute, and a substitution undoes a shift.

// uniqueTerm is a term whose variables point to their binders, so that a
// substitution needs no numbers. It checks the results of the program.
type uniqueTerm struct {
	kind   int
	n      int // for a free variable, its number
	binder *uniqueTerm
	kids   []*uniqueTerm
}

// binds is the column of operands with a dot of chapter 1, written down a
// second time.
func binds(kind, index int) bool {
	return index == 1 && (kind == impl.TermPi || kind == impl.TermLam || kind == impl.TermSigma)
}

func toUnique(t impl.Term, around []*uniqueTerm) *uniqueTerm {
	x := &uniqueTerm{kind: t.Kind, n: t.N}
	if t.Kind == impl.TermVar {
		if t.N < len(around) {
			x.binder = around[len(around)-1-t.N]
		}
		x.n = t.N - len(around)
	}
	for i, kid := range t.Kids {
		inner := around
		if binds(t.Kind, i) {
			inner = append(slices.Clone(around), x)
		}
		x.kids = append(x.kids, toUnique(kid, inner))
	}
	return x
}

// numbered writes the term with numbers again, however large they are. Each
// free variable becomes the term that free returns.
func (x *uniqueTerm) numbered(around []*uniqueTerm, free func(n int) *uniqueTerm) impl.Term {
	if x.kind == impl.TermVar && x.binder != nil {
		for distance := 0; ; distance++ {
			if around[len(around)-1-distance] == x.binder {
				return variable(distance)
			}
		}
	}
	if x.kind == impl.TermVar {
		y := free(x.n)
		if y.kind == impl.TermVar {
			return variable(y.n + len(around))
		}
		return y.numbered(around, freeVariable)
	}
	t := impl.Term{Kind: x.kind, N: x.n}
	for i, kid := range x.kids {
		inner := around
		if binds(x.kind, i) {
			inner = append(slices.Clone(around), x)
		}
		t.Kids = append(t.Kids, kid.numbered(inner, free))
	}
	return t
}

func freeVariable(n int) *uniqueTerm { return &uniqueTerm{kind: impl.TermVar, n: n} }

func replaceAll(t impl.Term, free func(n int) *uniqueTerm) impl.Term {
	return toUnique(t, nil).numbered(nil, free)
}

func wantSubst(t impl.Term, index int, u impl.Term) impl.Term {
	inserted := toUnique(u, nil)
	return replaceAll(t, func(n int) *uniqueTerm {
		if n == index {
			return inserted
		}
		if n > index {
			n--
		}
		return freeVariable(n)
	})
}

// wantShift also reports whether no free variable crosses the cut.
func wantShift(t impl.Term, by, cut int) (impl.Term, bool) {
	stays := true
	x := replaceAll(t, func(n int) *uniqueTerm {
		if n < cut {
			return freeVariable(n)
		}
		stays = stays && n+by >= cut
		return freeVariable(n + by)
	})
	return x, stays
}

func wantRename(t impl.Term, names []int) impl.Term {
	return replaceAll(t, func(n int) *uniqueTerm { return freeVariable(names[n]) })
}

func freeNumbers(t impl.Term) []int {
	var list []int
	replaceAll(t, func(n int) *uniqueTerm {
		list = append(list, n)
		return freeVariable(n)
	})
	return list
}

// randomOpen builds a term of at most the given depth, in which the numbers
// of the variables are less than the given limit.
func randomOpen(r *rand.Rand, depth, limit int) impl.Term {
	kinds := []int{impl.TermVar, impl.TermVar, impl.TermVar, impl.TermPi, impl.TermLam, impl.TermSigma, impl.TermApp, 1 + r.Intn(impl.TermSnd)}
	kind := kinds[r.Intn(len(kinds))]
	for depth == 1 && operandsOf(kind) > 0 {
		kind = kinds[r.Intn(3)]
	}
	x := mk(kind)
	if kind == impl.TermVar {
		x.N = r.Intn(limit)
	}
	for range operandsOf(kind) {
		x.Kids = append(x.Kids, randomOpen(r, depth-1, limit))
	}
	return x
}

// checkTermResult wants the term if there is to be one, and otherwise the
// zero value and false.
func checkTermResult(t *testing.T, what string, got impl.Term, ok bool, want impl.Term, exists bool) {
	t.Helper()
	if !exists {
		checkRefused(t, what, got, ok)
	} else if !ok || !equalTerm(got, want) {
		t.Errorf("%s = %s, %v, want %s", what, textOrZero(got), ok, textOf(want))
	}
}

func checkRefused(t *testing.T, what string, got impl.Term, ok bool) {
	t.Helper()
	if ok || !isZeroTerm(got) {
		t.Errorf("%s = %s, %v, want the zero value and false", what, textOrZero(got), ok)
	}
}

func textOrZero(t impl.Term) string {
	if isZeroTerm(t) {
		return "nothing"
	}
	return textOf(t)
}

// checkText wants the term with this text, or false for the empty text.
func checkText(t *testing.T, what string, got impl.Term, ok bool, want string) {
	t.Helper()
	if want == "" {
		checkRefused(t, what, got, ok)
	} else if !ok || !equalTerm(got, parse(t, want)) {
		t.Errorf("%s = %s, %v, want %s", what, textOrZero(got), ok, want)
	}
}

func TestFreeVariables(t *testing.T) {
	for _, c := range []struct {
		text string
		free []int
	}{
		{"#0", []int{0}}, {"#20", []int{20}}, {"*0", nil}, {"*3", nil}, {"N", nil}, {"0", nil},
		{"(#0>#0)", []int{0}}, {"(#0>#1)", []int{0, 0}}, {"(N>#0)", nil}, {"(#1>#3)", []int{1, 2}},
		{"[#0]#0", []int{0}}, {"[#0]#1", []int{0, 0}}, {"[N]#0", nil}, {"[#1]#3", []int{1, 2}},
		{"(#0*#0)", []int{0}}, {"(#0*#1)", []int{0, 0}}, {"(N*#0)", nil}, {"(#1*#3)", []int{1, 2}},
		{"(#0 #1)", []int{0, 1}}, {"+#4", []int{4}}, {"!#4", []int{4}}, {"^#4", []int{4}}, {"_#4", []int{4}},
		{"<#0,#1,#2,#3>", []int{0, 1, 2, 3}}, {"{#0,#1,#2}", []int{0, 1, 2}}, {"@<#0,#1,#2>", []int{0, 1, 2}}, {"|#0,#1,#2|", []int{0, 1, 2}},
		{"(#0 (#0 #0))", []int{0, 0, 0}}, {"[N][N](#0 (#1 #2))", []int{0}}, {"[N]#20", []int{19}}, {"[[N]#0]#0", nil}, {"[[N]#1]#1", []int{0, 0}},
		{"[N](#0 (#1 #3))", []int{0, 2}}, {"(#0 [N](#1 #0))", []int{0, 0}}, {"[N]<[N]#1,#1,[N][N]#3,#0>", []int{0, 0}},
		{"(#7 (#3 #5))", []int{3, 5, 7}}, {strings.Repeat("[N]", 21) + "#20", nil}, {strings.Repeat("[N]", 20) + "#20", []int{0}},
	} {
		checkFree(t, parse(t, c.text), c.free)
	}
}

// checkFree wants t to have these free variables, each as often as it occurs.
func checkFree(t *testing.T, x impl.Term, free []int) {
	t.Helper()
	most := 0
	for index := -2; index <= 23; index++ {
		count := 0
		for _, n := range free {
			if n == index {
				count++
			}
			most = max(most, n+1)
		}
		if got := impl.CountVar(x, index); got != count {
			t.Errorf("CountVar(%s, %d) = %d, want %d", textOf(x), index, got, count)
		}
		if got := impl.FreeAt(x, index); got != (count > 0) {
			t.Errorf("FreeAt(%s, %d) = %v", textOf(x), index, got)
		}
	}
	if got := impl.MaxFree(x); got != most {
		t.Errorf("MaxFree(%s) = %d, want %d", textOf(x), got, most)
	}
}

func TestFreeVariablesOfRandomTerms(t *testing.T) {
	r := rand.New(rand.NewSource(2))
	for range 5000 {
		if x := randomOpen(r, 1+r.Intn(5), 1+r.Intn(21)); impl.TermValid(x) {
			checkFree(t, x, freeNumbers(x))
		}
	}
}

func TestIndexOutOfRange(t *testing.T) {
	x := parse(t, "(#0 #20)")
	for _, index := range []int{math.MinInt, -21, -1, 21, 22, 100, math.MaxInt} {
		if impl.CountVar(x, index) != 0 || impl.FreeAt(x, index) {
			t.Errorf("the index %d is accepted", index)
		}
		for _, text := range []string{"#0", "N", "[N]#0", "(#0 #20)"} {
			got, ok := impl.SubstTerm(parse(t, text), index, zero())
			checkRefused(t, "SubstTerm with a wrong index", got, ok)
		}
	}
	if impl.CountVar(x, 20) != 1 || impl.CountVar(x, 0) != 1 || !impl.FreeAt(x, 20) {
		t.Error("an index at a limit is rejected")
	}
}

// Each kind, each operand, and each free variable: which ones are in a scope,
// and that nothing else of the node changes.
func TestEveryOperandOfEveryKind(t *testing.T) {
	everyPlace(func(kind, index int) {
		inner := 0
		if binds(kind, index) {
			inner = 1
		}
		for i := range 5 {
			x := around(kind, index, variable(i+inner))
			checkFree(t, x, []int{i})
			got, ok := impl.SubstTerm(x, i, variable(7))
			checkTermResult(t, "SubstTerm of "+textOf(x), got, ok, around(kind, index, variable(7+inner)), true)
			got, ok = impl.SubstTerm(x, i+1, variable(7))
			checkTermResult(t, "SubstTerm above "+textOf(x), got, ok, x, true)
			got, ok = impl.ShiftTerm(x, 3, i)
			checkTermResult(t, "ShiftTerm of "+textOf(x), got, ok, around(kind, index, variable(i+inner+3)), true)
			got, ok = impl.ShiftTerm(x, 3, i+1)
			checkTermResult(t, "ShiftTerm above "+textOf(x), got, ok, x, true)
			got, ok = impl.RenameTerm(x, []int{4, 5, 6, 7, 8})
			checkTermResult(t, "RenameTerm of "+textOf(x), got, ok, around(kind, index, variable(i+inner+4)), true)
		}
		bound := around(kind, index, around(impl.TermLam, 1, variable(0)))
		checkFree(t, bound, nil)
		got, ok := impl.ShiftTerm(bound, 20, 0)
		checkTermResult(t, "ShiftTerm of "+textOf(bound), got, ok, bound, true)
	})
}

func TestShift(t *testing.T) {
	for _, c := range []struct {
		text string
		by   int
		cut  int
		want string
	}{
		{"[N](#0 (#1 #3))", 2, 1, "[N](#0 (#1 #5))"}, {"[N](#0 (#1 #3))", 2, 0, "[N](#0 (#3 #5))"}, {"[N](#0 (#1 #3))", 2, 3, "[N](#0 (#1 #3))"},
		{"[N](#0 (#1 #3))", -1, 1, "[N](#0 (#1 #2))"}, {"[N](#0 (#1 #3))", -1, 0, ""}, {"[N](#0 (#1 #3))", -2, 1, ""}, {"[N](#0 (#1 #3))", -1, 2, ""},
		{"#0", 0, 0, "#0"}, {"#0", 1, 0, "#1"}, {"#0", 1, 1, "#0"}, {"#5", 0, 3, "#5"}, {"(#1 #3)", -1, 2, "(#1 #2)"}, {"(#1 #3)", -2, 2, ""}, {"(#1 #3)", -1, 1, ""},
		// A negative shift goes as far as the cut, and no further.
		{"#1", -1, 0, "#0"}, {"#0", -1, 0, ""}, {"#4", -3, 1, "#1"}, {"#4", -4, 1, ""}, {"#4", -20, 5, "#4"}, {"#4", -20, 4, ""}, {"#0", -20, 1, "#0"},
		{"[N]#1", -1, 0, ""}, {"[N]#2", -1, 0, "[N]#1"}, {"[N][N](#1 (#0 #4))", -2, 0, "[N][N](#1 (#0 #2))"}, {"[N][N](#1 (#0 #4))", -3, 0, ""}, {"(#0 [N]#3)", -1, 1, "(#0 [N]#2)"},
		{"[#2]#0", -2, 0, "[#0]#0"}, {"[#2]#1", -2, 0, ""}, {"[#2]#1", -1, 1, "[#1]#1"},
		// Bound variables stay, in every scope.
		{"[N]#0", 20, 0, "[N]#0"}, {"[N]#0", -20, 0, "[N]#0"}, {"(N>(#0*#1))", -20, 0, "(N>(#0*#1))"}, {"(*0>(#0>#1))", 5, 0, "(*0>(#0>#1))"},
		// The limits of by, of cut, and of the index in the result.
		{"#0", 20, 0, "#20"}, {"#1", 20, 0, ""}, {"#1", 19, 0, "#20"}, {"#0", 21, 0, ""}, {"#20", 1, 0, ""}, {"#20", 0, 0, "#20"}, {"#20", -20, 0, "#0"}, {"#20", -21, 0, ""},
		{"N", 20, 0, "N"}, {"N", 21, 0, ""}, {"N", -20, 0, "N"}, {"N", -21, 0, ""}, {"N", 1, 20, "N"}, {"N", 1, 21, ""}, {"N", 1, -1, ""}, {"N", 0, 0, "N"}, {"N", 0, -1, ""}, {"N", 0, 21, ""},
		{"#20", 0, 20, "#20"}, {"#20", 1, 20, ""}, {"#20", -1, 20, ""}, {"#19", 20, 20, "#19"}, {"#20", -1, 19, "#19"}, {"#20", 5, 21, ""},
		{"[N]#19", 1, 0, "[N]#20"}, {"[N]#20", 1, 0, ""}, {"[N]#20", 1, 19, ""}, {"[N]#20", 1, 20, "[N]#20"}, {"(N>[N]#15)", 5, 13, "(N>[N]#20)"}, {"(N>[N]#15)", 6, 13, ""},
		{strings.Repeat("[N]", 20) + "#20", 1, 0, ""}, {strings.Repeat("[N]", 20) + "#20", 1, 1, strings.Repeat("[N]", 20) + "#20"}, {strings.Repeat("[N]", 21) + "#20", 20, 0, strings.Repeat("[N]", 21) + "#20"},
	} {
		got, ok := impl.ShiftTerm(parse(t, c.text), c.by, c.cut)
		checkText(t, "ShiftTerm of "+c.text, got, ok, c.want)
	}
	for _, n := range []int{math.MinInt, math.MinInt + 1, math.MaxInt - 1, math.MaxInt} {
		for _, text := range []string{"N", "#3", "[N]#3"} {
			got, ok := impl.ShiftTerm(parse(t, text), n, 0)
			checkRefused(t, "ShiftTerm by far too much", got, ok)
			got, ok = impl.ShiftTerm(parse(t, text), 1, n)
			checkRefused(t, "ShiftTerm from far too much on", got, ok)
		}
	}
}

func TestSubst(t *testing.T) {
	for _, c := range []struct {
		text  string
		index int
		u     string
		want  string
	}{
		{"[N](#0 #1)", 0, "#3", "[N](#0 #4)"}, {"[N](#0 (#1 #3))", 2, "[N]#1", "[N](#0 (#1 [N]#2))"},
		{"#0", 0, "N", "N"}, {"#0", 1, "N", "#0"}, {"#1", 0, "N", "#0"}, {"#2", 1, "N", "#1"}, {"(#0 (#1 #2))", 1, "*0", "(#0 (*0 #1))"}, {"(#0 #0)", 0, "(#0 #0)", "((#0 #0) (#0 #0))"},
		// A variable that is replaced inside of several binders.
		{"[N][N][N]#3", 0, "#0", "[N][N][N]#3"}, {"[N][N][N]#3", 0, "(#0 #2)", "[N][N][N](#3 #5)"}, {"(N>(N*[N](#3 #2)))", 0, "#1", "(N>(N*[N](#4 #2)))"},
		{"[N][N]#2", 0, "[N](#0 #1)", "[N][N][N](#0 #3)"}, {"[N][N]#4", 2, "(N>(#0>#2))", "[N][N](N>(#0>#4))"}, {"(#1 [#1](#2 (N*(#3 #0))))", 1, "#5", "(#5 [#5](#6 (N*(#7 #0))))"},
		{"[N][N](#3 (#2 (#1 #0)))", 0, "#0", "[N][N](#2 (#2 (#1 #0)))"}, {"[N][N](#3 (#2 (#1 #0)))", 1, "#0", "[N][N](#2 (#2 (#1 #0)))"},
		// The bound variables of what is inserted stay.
		{"[N]#1", 0, "[N]#0", "[N][N]#0"}, {"[N]#1", 0, "(*0>(#0>#1))", "[N](*0>(#0>#1))"}, {"[N]#1", 0, "(#0*#0)", "[N](#1*#0)"}, {"[N]#1", 0, "(#0*#1)", "[N](#1*#2)"},
		// The term does not contain the variable.
		{"N", 0, "#20", "N"}, {"[N]#0", 0, "#20", "[N]#0"}, {"[N]#0", 20, "[N]#20", "[N]#0"}, {"[N](#0 #2)", 0, "0", "[N](#0 #1)"}, {"[N](#0 #1)", 1, "0", "[N](#0 #1)"}, {"(#0 #5)", 3, "0", "(#0 #4)"},
		// Several scopes in one term.
		{"(#0>#1)", 0, "#4", "(#4>#5)"}, {"[#0]#1", 0, "#4", "[#4]#5"}, {"(#0*#1)", 0, "#4", "(#4*#5)"}, {"[[#0]#1]#2", 0, "#4", "[[#4]#5]#1"}, {"[[#1]#2]#2", 1, "#4", "[[#4]#5]#5"},
		// The limits of the index, and of the index in the result.
		{"#20", 20, "0", "0"}, {"#20", 19, "0", "#19"}, {"#19", 20, "0", "#19"}, {"[N]#20", 19, "0", "[N]0"}, {"[N]#20", 20, "0", "[N]#20"}, {"[N]#20", 18, "0", "[N]#19"},
		{"#0", 0, "#20", "#20"}, {"[N]#1", 0, "#19", "[N]#20"}, {"[N]#1", 0, "#20", ""}, {"[N][N]#2", 0, "#18", "[N][N]#20"}, {"[N][N]#2", 0, "#19", ""}, {"[N]#1", 0, "[N]#20", ""}, {"[N]#1", 0, "[N]#19", "[N][N]#20"},
		{"(#0 [N]#1)", 0, "#20", ""}, {"[#0]#0", 0, "#20", "[#20]#0"}, {strings.Repeat("[N]", 20) + "#20", 0, "#0", strings.Repeat("[N]", 20) + "#20"}, {strings.Repeat("[N]", 20) + "#20", 0, "#1", ""},
	} {
		x, u := parse(t, c.text), parse(t, c.u)
		got, ok := impl.SubstTerm(x, c.index, u)
		checkText(t, "SubstTerm of "+c.text, got, ok, c.want)
		if got, ok := impl.Instantiate(x, u); c.index == 0 {
			checkText(t, "Instantiate of "+c.text, got, ok, c.want)
		}
	}
	for kind := impl.TermVar; kind <= impl.TermSnd; kind++ {
		if operandsOf(kind) > 0 {
			u := around(kind, 0, variable(2))
			got, ok := impl.SubstTerm(parse(t, "[N](#0 #1)"), 0, u)
			checkTermResult(t, "SubstTerm with "+textOf(u), got, ok, mk(impl.TermLam, nat(), mk(impl.TermApp, variable(0), around(kind, 0, variable(3)))), true)
		}
	}
}

func TestLimitsOfASubstitution(t *testing.T) {
	flat := mk(impl.TermApp, variable(0), sized(198))
	for nodes, fits := range map[int]bool{200: true, 201: true, 202: false, 203: false, 400: false} {
		got, ok := impl.SubstTerm(flat, 0, sized(nodes))
		checkTermResult(t, "SubstTerm to the limit of nodes", got, ok, mk(impl.TermApp, sized(nodes), sized(198)), fits)
		got, ok = impl.Instantiate(mk(impl.TermApp, sized(198), variable(0)), sized(nodes))
		checkTermResult(t, "Instantiate to the limit of nodes", got, ok, mk(impl.TermApp, sized(198), sized(nodes)), fits)
	}
	twice := mk(impl.TermId, variable(0), variable(0), zero())
	for nodes, fits := range map[int]bool{199: true, 200: false} {
		got, ok := impl.SubstTerm(twice, 0, sized(nodes))
		checkTermResult(t, "SubstTerm of two variables", got, ok, mk(impl.TermId, sized(nodes), sized(nodes), zero()), fits)
	}
	for depth, fits := range map[int]bool{19: true, 20: true, 21: false, 30: false} {
		u := succs(depth-1, zero())
		got, ok := impl.SubstTerm(succs(10, variable(0)), 0, u)
		checkTermResult(t, "SubstTerm to the limit of depth", got, ok, succs(10, u), fits)
	}
	everyPlace(func(kind, index int) {
		v := 0
		if binds(kind, index) {
			v = 1
		}
		u := sized(400 - operandsOf(kind))
		got, ok := impl.SubstTerm(around(kind, index, variable(v)), 0, u)
		checkTermResult(t, "SubstTerm to 400 nodes", got, ok, around(kind, index, u), true)
		got, ok = impl.SubstTerm(around(kind, index, variable(v)), 0, sized(401-operandsOf(kind)))
		checkRefused(t, "SubstTerm to 401 nodes", got, ok)
		got, ok = impl.SubstTerm(around(kind, index, variable(v)), 0, succs(28, zero()))
		checkTermResult(t, "SubstTerm to the depth 30", got, ok, around(kind, index, succs(28, zero())), true)
		got, ok = impl.SubstTerm(around(kind, index, variable(v)), 0, succs(29, zero()))
		checkRefused(t, "SubstTerm to the depth 31", got, ok)
	})
	got, ok := impl.SubstTerm(doubled(7, variable(0)), 0, sized(399))
	checkRefused(t, "SubstTerm to very many nodes", got, ok)
	large := mk(impl.TermApp, sized(398), variable(1))
	got, ok = impl.SubstTerm(large, 1, zero())
	checkTermResult(t, "SubstTerm of a term at the limit", got, ok, mk(impl.TermApp, sized(398), zero()), true)
	got, ok = impl.SubstTerm(large, 0, sized(400))
	checkTermResult(t, "SubstTerm without the variable", got, ok, mk(impl.TermApp, sized(398), variable(0)), true)
	got, ok = impl.SubstTerm(large, 1, succs(1, zero()))
	checkRefused(t, "SubstTerm one node past the limit", got, ok)
	got, ok = impl.ShiftTerm(large, 5, 0)
	checkTermResult(t, "ShiftTerm of a term at the limit", got, ok, mk(impl.TermApp, sized(398), variable(6)), true)
	got, ok = impl.RenameTerm(succs(29, variable(0)), []int{20})
	checkTermResult(t, "RenameTerm of a term at the limit", got, ok, succs(29, variable(20)), true)
}

func TestRename(t *testing.T) {
	long := make([]int, 21)
	for i := range long {
		long[i] = 20 - i
	}
	for _, c := range []struct {
		text  string
		names []int
		want  string
	}{
		{"[N](#0 (#1 #3))", []int{2, 2, 0}, "[N](#0 (#3 #1))"}, {"[N](#0 (#1 #3))", []int{2, 2}, ""}, {"[N](#0 (#1 #3))", []int{2, 9, 4, 20, 0}, "[N](#0 (#3 #5))"},
		{"(#0 #1)", []int{1, 0}, "(#1 #0)"}, {"(#0 (#1 #2))", []int{1, 2, 0}, "(#1 (#2 #0))"}, {"(#0 #1)", []int{3, 3}, "(#3 #3)"}, {"[#0](#1 #0)", []int{4}, "[#4](#5 #0)"}, {"(#0>(#0*#2))", []int{1}, "(#1>(#0*#3))"},
		// The number of elements: at least MaxFree, at most 21.
		{"N", nil, "N"}, {"N", []int{}, "N"}, {"[N]#0", nil, "[N]#0"}, {"#0", nil, ""}, {"#0", []int{0}, "#0"}, {"[N]#1", nil, ""}, {"#1", []int{5}, ""}, {"#1", []int{5, 6}, "#6"}, {"#20", long[:20], ""}, {"#20", long, "#0"}, {"#0", long, "#20"},
		{"#0", append(slices.Clone(long), 0), ""}, {"N", append(slices.Clone(long), 0), ""}, {"N", make([]int, 1000), ""}, {"N", make([]int, 21), "N"}, {"[N]#20", make([]int, 20), "[N]#1"}, {"[N]#20", make([]int, 19), ""},
		// The elements, also those that are not used.
		{"#0", []int{20}, "#20"}, {"#0", []int{21}, ""}, {"#0", []int{-1}, ""}, {"N", []int{21}, ""}, {"N", []int{-1}, ""}, {"#0", []int{3, 21}, ""}, {"#0", []int{3, -1}, ""}, {"#0", []int{3, 20}, "#3"}, {"N", []int{math.MaxInt}, ""}, {"N", []int{math.MinInt}, ""},
		// The index in the result.
		{"[N]#1", []int{19}, "[N]#20"}, {"[N]#1", []int{20}, ""}, {"[N]#0", []int{20}, "[N]#0"}, {"[N][N](#0 #3)", []int{20, 18}, "[N][N](#0 #20)"}, {"[N][N](#0 #3)", []int{20, 19}, ""}, {"[N][N](#0 #2)", []int{20, 18}, ""},
	} {
		got, ok := impl.RenameTerm(parse(t, c.text), c.names)
		checkText(t, "RenameTerm of "+c.text, got, ok, c.want)
	}
}

// All results are compared with those of terms whose variables point to their
// binders.
func TestBindingOfRandomTerms(t *testing.T) {
	r := rand.New(rand.NewSource(3))
	accepted := 0
	for range 20000 {
		limit := 1 + r.Intn(21)
		x, u := randomOpen(r, 1+r.Intn(5), limit), randomOpen(r, 1+r.Intn(4), limit)
		if !impl.TermValid(x) || !impl.TermValid(u) {
			continue
		}
		index := r.Intn(limit)
		got, ok := impl.SubstTerm(x, index, u)
		want := wantSubst(x, index, u)
		checkTermResult(t, "SubstTerm of "+textOf(x), got, ok, want, impl.TermValid(want))
		if ok {
			accepted++
		}
		by, cut := r.Intn(41)-20, r.Intn(21)
		if r.Intn(2) == 0 {
			by, cut = r.Intn(7)-3, r.Intn(limit)
		}
		want, stays := wantShift(x, by, cut)
		got, ok = impl.ShiftTerm(x, by, cut)
		checkTermResult(t, "ShiftTerm of "+textOf(x), got, ok, want, stays && impl.TermValid(want))
		names := make([]int, impl.MaxFree(x))
		for i := range names {
			names[i] = r.Intn(limit)
		}
		want = wantRename(x, names)
		got, ok = impl.RenameTerm(x, names)
		checkTermResult(t, "RenameTerm of "+textOf(x), got, ok, want, impl.TermValid(want))
		if t.Failed() {
			return
		}
	}
	if accepted < 5000 {
		t.Errorf("only %d substitutions had a result", accepted)
	}
}

func TestSubstitutionUndoesShift(t *testing.T) {
	r := rand.New(rand.NewSource(4))
	tried := 0
	for range 20000 {
		limit := 1 + r.Intn(20)
		x, u := randomOpen(r, 1+r.Intn(6), limit), randomOpen(r, 1+r.Intn(3), 21)
		index := r.Intn(21)
		up, ok := impl.ShiftTerm(x, 1, index)
		if !ok || !impl.TermValid(u) {
			continue
		}
		tried++
		if impl.FreeAt(up, index) {
			t.Fatalf("ShiftTerm of %s leaves the variable %d", textOf(x), index)
		}
		back, ok := impl.SubstTerm(up, index, u)
		checkTermResult(t, "SubstTerm of a shifted "+textOf(x), back, ok, x, true)
		if by := r.Intn(21); by > 0 {
			if up, ok := impl.ShiftTerm(x, by, index); ok {
				back, ok := impl.ShiftTerm(up, -by, index)
				checkTermResult(t, "ShiftTerm back of "+textOf(x), back, ok, x, true)
			}
		}
		if t.Failed() {
			return
		}
	}
	if tried < 5000 {
		t.Errorf("only %d terms were tried", tried)
	}
}

func TestSubstitutionsCommute(t *testing.T) {
	r := rand.New(rand.NewSource(5))
	tried, changed := 0, 0
	for range 40000 {
		limit := 2 + r.Intn(6)
		x, u, v := randomOpen(r, 1+r.Intn(5), limit), randomOpen(r, 1+r.Intn(3), limit), randomOpen(r, 1+r.Intn(3), limit)
		i := r.Intn(limit)
		j := i + r.Intn(limit-i)
		inner, ok1 := impl.SubstTerm(x, i, u)
		first, ok2 := impl.SubstTerm(inner, j, v)
		up, ok3 := impl.ShiftTerm(v, 1, i)
		outer, ok4 := impl.SubstTerm(x, j+1, up)
		w, ok5 := impl.SubstTerm(u, j, v)
		second, ok6 := impl.SubstTerm(outer, i, w)
		if !ok1 || !ok2 || !ok3 || !ok4 || !ok5 || !ok6 {
			continue
		}
		tried++
		if impl.FreeAt(x, i) && impl.FreeAt(x, j+1) && impl.FreeAt(u, j) {
			changed++
		}
		if !equalTerm(first, second) {
			t.Fatalf("for %s, %d by %s and %d by %s: %s, but in the other order %s", textOf(x), i, textOf(u), j, textOf(v), textOf(first), textOf(second))
		}
	}
	if tried < 10000 || changed < 300 {
		t.Errorf("only %d terms were tried, %d with all the variables", tried, changed)
	}
}

func TestShiftIsARenaming(t *testing.T) {
	r := rand.New(rand.NewSource(6))
	for range 5000 {
		x, by, cut := randomOpen(r, 1+r.Intn(5), 8), r.Intn(6), r.Intn(8)
		names := make([]int, 13)
		for i := range names {
			names[i] = i
			if i >= cut {
				names[i] = i + by
			}
		}
		if !impl.TermValid(x) {
			continue
		}
		a, ok := impl.ShiftTerm(x, by, cut)
		b, fine := impl.RenameTerm(x, names)
		if ok != fine || !equalTerm(a, b) {
			t.Fatalf("ShiftTerm of %s by %d from %d is no renaming", textOf(x), by, cut)
		}
	}
}

func invalidTerms() []impl.Term {
	wrongN := nat()
	wrongN.N = 1
	list := []impl.Term{
		{}, mk(17), mk(-1), variable(21), variable(-1), sort(4), sort(-1), wrongN, mk(impl.TermNat, nat()), mk(impl.TermSucc), mk(impl.TermLam, nat()), mk(impl.TermLam, nat(), nat(), nat()),
		succs(30, zero()), succs(30, variable(0)), sized(401), succs(100000, zero()),
	}
	for _, x := range list {
		list = append(list, around(impl.TermLam, 1, x), around(impl.TermApp, 0, x))
	}
	return append(list, ring(1, impl.TermSucc), ring(3, impl.TermFst), doubled(100, variable(0)), around(impl.TermPi, 1, ring(2, impl.TermSucc)))
}

func TestBindingOfInvalidTerms(t *testing.T) {
	for i, x := range invalidTerms() {
		if impl.MaxFree(x) != -1 {
			t.Errorf("MaxFree of the invalid term %d = %d", i, impl.MaxFree(x))
		}
		for _, index := range []int{-1, 0, 1, 20, 21} {
			if impl.CountVar(x, index) != 0 || impl.FreeAt(x, index) {
				t.Errorf("variables are found in the invalid term %d", i)
			}
			checkInvalidBinding(t, x, index)
		}
	}
}

func checkInvalidBinding(t *testing.T, x impl.Term, index int) {
	t.Helper()
	got, ok := impl.ShiftTerm(x, 0, index)
	refuse := func(what string) {
		t.Helper()
		if ok || !isZeroTerm(got) {
			t.Errorf("%s accepts an invalid term", what)
		}
	}
	refuse("ShiftTerm")
	got, ok = impl.SubstTerm(x, index, zero())
	refuse("SubstTerm, as the term,")
	for _, y := range []impl.Term{variable(0), nat(), around(impl.TermLam, 1, variable(0)), variable(20)} {
		got, ok = impl.SubstTerm(y, index, x)
		refuse("SubstTerm, as the replacement,")
		got, ok = impl.Instantiate(y, x)
		refuse("Instantiate, as the replacement,")
	}
	got, ok = impl.Instantiate(x, zero())
	refuse("Instantiate, as the term,")
	got, ok = impl.RenameTerm(x, make([]int, 21))
	refuse("RenameTerm")
}

func TestBindingSharesNoMemory(t *testing.T) {
	text, inserted := "(#0 [N]((#1 #1) (#0 +#2)))", "(#0 [N](#0 #1))"
	x, u := parse(t, text), parse(t, inserted)
	store := []int{3, 4, 77}
	names := store[:2]
	for _, f := range []func() (impl.Term, bool){
		func() (impl.Term, bool) { return impl.ShiftTerm(x, 0, 0) },
		func() (impl.Term, bool) { return impl.ShiftTerm(x, 2, 1) },
		func() (impl.Term, bool) { return impl.SubstTerm(x, 0, u) },
		func() (impl.Term, bool) { return impl.SubstTerm(x, 5, u) },
		func() (impl.Term, bool) { return impl.SubstTerm(variable(0), 0, u) },
		func() (impl.Term, bool) { return impl.Instantiate(x, u) },
		func() (impl.Term, bool) { return impl.RenameTerm(x, names) },
	} {
		first, ok := f()
		second, fine := f()
		if !ok || !fine || !equalTerm(first, second) {
			t.Fatalf("two calls return %v, %v and %v, %v", first, ok, second, fine)
		}
		want := copyTerm(second)
		overwrite(first)
		if !equalTerm(second, want) || !equalTerm(x, parse(t, text)) || !equalTerm(u, parse(t, inserted)) {
			t.Error("a result shares memory with an argument or with another result")
		}
	}
	if !slices.Equal(store, []int{3, 4, 77}) {
		t.Errorf("the names are changed to %v", store)
	}
	got, _ := impl.SubstTerm(parse(t, "(#0 #0)"), 0, u)
	overwrite(got.Kids[0])
	if !equalTerm(got.Kids[1], u) {
		t.Error("two places of one result share memory")
	}
}

func TestBindingOfSharedOperands(t *testing.T) {
	x := doubled(7, variable(3))
	if impl.CountVar(x, 3) != 128 || impl.MaxFree(x) != 4 {
		t.Error("shared operands are not counted as often as they occur")
	}
	got, ok := impl.ShiftTerm(x, -3, 1)
	checkRefused(t, "ShiftTerm of shared operands", got, ok)
	got, ok = impl.ShiftTerm(x, 2, 3)
	checkTermResult(t, "ShiftTerm of shared operands", got, ok, doubled(7, variable(5)), true)
	got, ok = impl.SubstTerm(x, 3, succs(1, variable(0)))
	checkTermResult(t, "SubstTerm of shared operands", got, ok, doubled(7, succs(1, variable(0))), true)
	got, ok = impl.SubstTerm(x, 3, succs(2, variable(0)))
	checkRefused(t, "SubstTerm of shared operands past the limit", got, ok)
}

package tests

import (
	"math"
	"math/rand"
	"slices"
	"strings"
	"testing"

	"loop.example/depkernel/impl"
)

// Promise 3: both orders of reduction lead to the same normal term, if both end.

// The functions whose names begin with want are chapter 3, written down a
// second time: with lists of places, and without regard to the limits of terms.

// wantMain is the index of the main operand, or -1 if there is none.
func wantMain(kind int) int {
	return []int{-1, -1, -1, -1, -1, 0, -1, -1, -1, 3, -1, -1, 1, -1, -1, 0, 0}[kind]
}

func wantCode(t impl.Term) int {
	is := func(kind, index, below int) bool { return t.Kind == kind && t.Kids[index].Kind == below }
	for code, holds := range []bool{
		1: is(impl.TermApp, 0, impl.TermLam),
		2: is(impl.TermElim, 3, impl.TermZero),
		3: is(impl.TermElim, 3, impl.TermSucc),
		4: is(impl.TermMove, 1, impl.TermRefl),
		5: is(impl.TermFst, 0, impl.TermPair),
		6: is(impl.TermSnd, 0, impl.TermPair),
	} {
		if holds {
			return code
		}
	}
	return 0
}

func wantContractum(t impl.Term) impl.Term {
	switch wantCode(t) {
	case 1:
		return wantSubst(t.Kids[0].Kids[1], 0, t.Kids[1])
	case 2:
		return t.Kids[1]
	case 3:
		before := t.Kids[3].Kids[0]
		return mk(impl.TermApp, mk(impl.TermApp, t.Kids[2], before), mk(impl.TermElim, t.Kids[0], t.Kids[1], t.Kids[2], before))
	case 4:
		return t.Kids[2]
	case 5:
		return t.Kids[0].Kids[1]
	case 6:
		return t.Kids[0].Kids[2]
	}
	return impl.Term{}
}

func partAt(t impl.Term, place []int) impl.Term {
	for _, index := range place {
		t = t.Kids[index]
	}
	return t
}

func putAt(t impl.Term, place []int, part impl.Term) impl.Term {
	if len(place) == 0 {
		return part
	}
	kids := slices.Clone(t.Kids)
	kids[place[0]] = putAt(kids[place[0]], place[1:], part)
	return impl.Term{Kind: t.Kind, N: t.N, Kids: kids}
}

// redexesOf lists the places of redexes, those of a node before or behind
// those of its operands.
func redexesOf(t impl.Term, behind bool) [][]int {
	var own, list [][]int
	if wantCode(t) != 0 {
		own = [][]int{{}}
	}
	for i, kid := range t.Kids {
		for _, place := range redexesOf(kid, behind) {
			list = append(list, append([]int{i}, place...))
		}
	}
	if behind {
		return append(list, own...)
	}
	return append(own, list...)
}

// headRedexes lists the places of redexes on the way of the main operands.
func headRedexes(t impl.Term) [][]int {
	var list [][]int
	place := []int{}
	for {
		part := partAt(t, place)
		if wantCode(part) != 0 {
			list = append(list, slices.Clone(place))
		}
		index := wantMain(part.Kind)
		if index < 0 {
			return list
		}
		place = append(place, index)
	}
}

// order is one order of steps: what it is to do, and the functions that do it.
type order struct {
	name      string
	redexes   func(t impl.Term) [][]int
	normalize func(t impl.Term, fuel int) (impl.Term, int)
	step      func(t impl.Term) (impl.Term, int) // nil for the head
}

func outside() order {
	return order{"Normalize", func(t impl.Term) [][]int { return redexesOf(t, false) }, impl.Normalize, impl.StepTerm}
}

func inside() order {
	return order{"NormalizeInner", func(t impl.Term) [][]int { return redexesOf(t, true) }, impl.NormalizeInner, impl.StepInner}
}

func head() order { return order{"HeadNormal", headRedexes, impl.HeadNormal, nil} }

func orders() []order { return []order{outside(), inside(), head()} }

func (o order) wantStep(t impl.Term) (impl.Term, int) {
	places := o.redexes(t)
	if len(places) == 0 {
		return t, impl.StepNormal
	}
	next := putAt(t, places[0], wantContractum(partAt(t, places[0])))
	if !impl.TermValid(next) {
		return impl.Term{}, impl.StepLarge
	}
	return next, impl.StepTook
}

// trace has the terms that the order leads to, up to the given number of
// steps, and the code of the step after the last one.
type trace struct {
	terms []impl.Term
	end   int
}

func (o order) traceOf(t impl.Term, most int) trace {
	x := trace{terms: []impl.Term{t}}
	for {
		next, code := o.wantStep(x.terms[len(x.terms)-1])
		if code != impl.StepTook || len(x.terms) > most {
			x.end = code
			return x
		}
		x.terms = append(x.terms, next)
	}
}

func (x trace) steps() int { return len(x.terms) - 1 }

// normalized is the result with a fuel that is not more than the steps that
// the trace was allowed.
func (x trace) normalized(fuel int) (impl.Term, int) {
	switch {
	case fuel < x.steps() || fuel == x.steps() && x.end != impl.StepNormal:
		return impl.Term{}, impl.NormFuel
	case x.end == impl.StepLarge:
		return impl.Term{}, impl.NormLarge
	}
	return x.terms[x.steps()], impl.NormOk
}

func checkCoded(t *testing.T, what string, x, got impl.Term, code int, want impl.Term, wantCode int) {
	t.Helper()
	if code != wantCode || !equalTerm(got, want) {
		t.Errorf("%s of %s = %s, %d, want %s, %d", what, textOf(x), textOrZero(got), code, textOrZero(want), wantCode)
	}
}

// checkReduction compares all functions of the order for a valid term, with
// the given fuels and with those next to the number of steps.
func checkReduction(t *testing.T, o order, x impl.Term, most int, fuels ...int) trace {
	t.Helper()
	if o.step != nil {
		got, code := o.step(x)
		want, wantCode := o.wantStep(x)
		checkCoded(t, "a step of "+o.name, x, got, code, want, wantCode)
	}
	seen := o.traceOf(x, most)
	for _, fuel := range append([]int{seen.steps() - 1, seen.steps(), seen.steps() + 1, most}, fuels...) {
		if fuel < 0 || fuel > most {
			continue
		}
		got, code := o.normalize(x, fuel)
		want, wantCode := seen.normalized(fuel)
		checkCoded(t, o.name, x, got, code, want, wantCode)
	}
	return seen
}

// checkRoot compares what the functions say of the root of a valid term.
func checkRoot(t *testing.T, x impl.Term) {
	t.Helper()
	if got := impl.RedexOf(x); got != wantCode(x) {
		t.Errorf("RedexOf(%s) = %d, want %d", textOf(x), got, wantCode(x))
	}
	want := wantContractum(x)
	got, ok := impl.ContractTerm(x)
	checkTermResult(t, "ContractTerm of "+textOf(x), got, ok, want, wantCode(x) != 0 && impl.TermValid(want))
	if got := impl.NormalTerm(x); got != (len(redexesOf(x, false)) == 0) {
		t.Errorf("NormalTerm(%s) = %v", textOf(x), got)
	}
}

type redexCase struct {
	text string
	code int
	next string
}

func redexCases() []redexCase {
	return []redexCase{
		{"([N]+#0 ++0)", impl.RedexApply, "+++0"}, {"([N]0 #3)", impl.RedexApply, "0"}, {"([#5](#0 (#1 #2)) #4)", impl.RedexApply, "(#4 (#0 #1))"},
		{"([N][#0](#1 #2) #0)", impl.RedexApply, "[#0](#1 #1)"}, {"([N](#0>(#1*[#2]#3)) ^#1)", impl.RedexApply, "(^#1>(^#2*[^#3]^#4))"},
		{"<#0,#1,#2,0>", impl.RedexZero, "#1"}, {"<[N]N,++0,[N][N]#1,0>", impl.RedexZero, "++0"},
		{"<#0,#1,#2,+#3>", impl.RedexSucc, "((#2 #3) <#0,#1,#2,#3>)"}, {"<[N]N,0,[N][N]#1,++0>", impl.RedexSucc, "(([N][N]#1 +0) <[N]N,0,[N][N]#1,+0>)"},
		{"@<#0,!#1,#2>", impl.RedexMove, "#2"}, {"@<[N]{N,0,#0},!0,!+0>", impl.RedexMove, "!+0"},
		{"^|#0,#1,#2|", impl.RedexFst, "#1"}, {"^|(N*N),0,+0|", impl.RedexFst, "0"},
		{"_|#0,#1,#2|", impl.RedexSnd, "#2"}, {"_|(N*N),0,+0|", impl.RedexSnd, "+0"},
	}
}

func TestRedexesOfEveryCode(t *testing.T) {
	for _, c := range redexCases() {
		x := parse(t, c.text)
		if code := impl.RedexOf(x); code != c.code {
			t.Errorf("RedexOf(%s) = %d, want %d", c.text, code, c.code)
		}
		got, ok := impl.ContractTerm(x)
		checkText(t, "ContractTerm of "+c.text, got, ok, c.next)
		checkRoot(t, x)
		for _, o := range orders() {
			checkReduction(t, o, x, 20)
		}
	}
}

// Each kind, with each kind as each of its operands: six of these terms are
// redexes, and no others.
func TestWhichTermsAreRedexes(t *testing.T) {
	redexes := 0
	everyPlace(func(kind, index int) {
		for below := impl.TermVar; below <= impl.TermSnd; below++ {
			x, part := mk(kind), mk(below)
			for i := range operandsOf(below) {
				part.Kids = append(part.Kids, variable(10+i))
			}
			for i := range operandsOf(kind) {
				x.Kids = append(x.Kids, variable(i))
			}
			x.Kids[index] = part
			checkRoot(t, x)
			if impl.RedexOf(x) != impl.RedexNone {
				redexes++
			}
		}
	})
	if redexes != 6 {
		t.Errorf("%d combinations are redexes, want 6", redexes)
	}
	for _, text := range []string{"#0", "*0", "N", "0", "+0", "[N]#0", "(#0 [N]#0)", "(([N]#0 0) 0)", "<[N]N,0,[N][N]#0,#0>", "<0,0,0,([N]#0 0)>", "@<!0,#0,!0>", "^^|N,0,0|", "_#0", "^(#0*#0)"} {
		x := parse(t, text)
		checkRoot(t, x)
		if code := impl.RedexOf(x); code != 0 {
			t.Errorf("RedexOf(%s) = %d, want 0", text, code)
		}
	}
}

// A redex of every code, as each operand of each kind: each order finds it
// there, and the head only in the main operand.
func TestRedexInEveryOperand(t *testing.T) {
	for _, c := range redexCases() {
		everyPlace(func(kind, index int) {
			x := around(kind, index, parse(t, c.text))
			want := around(kind, index, parse(t, c.next))
			checkRoot(t, x)
			for _, o := range orders() {
				checkReduction(t, o, x, 20, 0, 1)
				if o.step != nil {
					got, code := o.step(x)
					checkCoded(t, "a step of "+o.name, x, got, code, want, impl.StepTook)
				}
			}
			got, code := impl.HeadNormal(x, 0)
			if index == wantMain(kind) {
				checkCoded(t, "HeadNormal without fuel", x, got, code, impl.Term{}, impl.NormFuel)
			} else {
				checkCoded(t, "HeadNormal", x, got, code, x, impl.NormOk)
			}
		})
	}
}

func TestOrderOfSteps(t *testing.T) {
	for _, c := range []struct{ text, outer, inner string }{
		{"([N]+#0 ([N]++#0 0))", "+([N]++#0 0)", "([N]+#0 ++0)"},
		// A redex inside of the type of a binder.
		{"[([*0]#0 N)]#0", "[N]#0", "[N]#0"}, {"(([*0]#0 N)>#0)", "(N>#0)", "(N>#0)"}, {"(([*0]#0 N)*#0)", "(N*#0)", "(N*#0)"},
		{"([([*0]#0 N)]#0 0)", "0", "([N]#0 0)"}, {"[^|N,N,0|]_|N,#0,+#0|", "[N]_|N,#0,+#0|", "[N]_|N,#0,+#0|"}, {"[([*0]#0 #3)][(#0 ([*0]#0 #1))]#1", "[#3][(#0 ([*0]#0 #1))]#1", "[#3][(#0 ([*0]#0 #1))]#1"},
		{"[N][([N]#1 0)](#0 #1)", "[N][#0](#0 #1)", "[N][#0](#0 #1)"}, {"(N>(([N](#1 #0) 0)*#0))", "(N>((#0 0)*#0))", "(N>((#0 0)*#0))"},
		// Several operands with redexes: the first one, in both orders.
		{"(^|N,0,0| _|N,0,0|)", "(0 _|N,0,0|)", "(0 _|N,0,0|)"}, {"{^|N,N,0|,^|N,0,N|,_|N,N,0|}", "{N,^|N,0,N|,_|N,N,0|}", "{N,^|N,0,N|,_|N,N,0|}"},
		{"{N,^|N,0,N|,_|N,N,0|}", "{N,0,_|N,N,0|}", "{N,0,_|N,N,0|}"}, {"<^|N,0,0|,_|N,0,0|,0,@<N,!0,0>>", "<0,_|N,0,0|,0,@<N,!0,0>>", "<0,_|N,0,0|,0,@<N,!0,0>>"},
		{"|N,0,(^|N,0,0| ^|N,0,0|)|", "|N,0,(0 ^|N,0,0|)|", "|N,0,(0 ^|N,0,0|)|"},
		// A redex in each operand of a redex.
		{"<^|N,0,0|,0,#0,0>", "0", "<0,0,#0,0>"}, {"<#1,^|N,0,0|,#0,0>", "^|N,0,0|", "<#1,0,#0,0>"}, {"<#1,#2,^|N,0,0|,0>", "#2", "<#1,#2,0,0>"}, {"<#1,#2,#0,+^|N,0,0|>", "((#0 ^|N,0,0|) <#1,#2,#0,^|N,0,0|>)", "<#1,#2,#0,+0>"},
		{"@<^|N,0,0|,!0,0>", "0", "@<0,!0,0>"}, {"@<N,!^|N,0,0|,0>", "0", "@<N,!0,0>"}, {"@<N,!0,^|N,0,0|>", "^|N,0,0|", "@<N,!0,0>"},
		{"^|^|N,0,0|,#1,#2|", "#1", "^|0,#1,#2|"}, {"^|N,^|N,0,0|,#2|", "^|N,0,0|", "^|N,0,#2|"}, {"_|N,#1,_|N,0,0||", "_|N,0,0|", "_|N,#1,0|"}, {"_|N,_|N,0,0|,#2|", "#2", "_|N,0,#2|"},
		{"(([N][N]#1 0) +0)", "([N]0 +0)", "([N]0 +0)"}, {"([N]([N]#0 #0) 0)", "([N]#0 0)", "([N]#0 0)"}, {"([N]([N]#1 #0) 0)", "([N]0 0)", "([N]#0 0)"},
		// The first redex from inside may be deep in a later operand.
		{"(#0 (#1 ([N]#0 ([N]+#0 0))))", "(#0 (#1 ([N]+#0 0)))", "(#0 (#1 ([N]#0 +0)))"}, {"([N]([N]++#0 #0) ([N]+#0 0))", "([N]++#0 ([N]+#0 0))", "([N]++#0 ([N]+#0 0))"},
		{"#0", "", ""}, {"*3", "", ""}, {"[N](#0 #1)", "", ""}, {"+++0", "", ""}, {"<[N]N,0,[N][N]#0,#1>", "", ""}, {"@<[N]N,#0,0>", "", ""}, {"(N>(N*{N,#0,#1}))", "", ""},
	} {
		x := parse(t, c.text)
		checkRoot(t, x)
		for _, o := range orders() {
			checkReduction(t, o, x, 20)
		}
		outer, code := impl.StepTerm(x)
		inner, second := impl.StepInner(x)
		if c.outer == "" {
			checkCoded(t, "StepTerm", x, outer, code, x, impl.StepNormal)
			checkCoded(t, "StepInner", x, inner, second, x, impl.StepNormal)
			continue
		}
		checkCoded(t, "StepTerm", x, outer, code, parse(t, c.outer), impl.StepTook)
		checkCoded(t, "StepInner", x, inner, second, parse(t, c.inner), impl.StepTook)
	}
}

func TestHeadNormalForms(t *testing.T) {
	for _, c := range []struct {
		text  string
		steps int
		want  string
	}{
		{"([N]+#0 ([N]#0 0))", 1, "+([N]#0 0)"}, {"+([N]#0 0)", 0, "+([N]#0 0)"}, {"(([N][N]#1 ^|N,0,0|) +0)", 3, "0"}, {"([N](#0 #1) [N]([N]#0 #0))", 3, "#0"},
		{"(#0 ([N]#0 0))", 0, "(#0 ([N]#0 0))"}, {"(([N]#0 #1) ([N]#0 0))", 1, "(#1 ([N]#0 0))"}, {"(((([N][N][N]#2 #5) 0) 0) ^|N,0,0|)", 3, "(#5 ^|N,0,0|)"},
		{"[N]([N]#0 0)", 0, "[N]([N]#0 0)"}, {"[([*0]#0 N)]#0", 0, "[([*0]#0 N)]#0"}, {"(([*0]#0 N)>N)", 0, "(([*0]#0 N)>N)"}, {"(([*0]#0 N)*N)", 0, "(([*0]#0 N)*N)"},
		{"!([N]#0 0)", 0, "!([N]#0 0)"}, {"{([*0]#0 N),0,0}", 0, "{([*0]#0 N),0,0}"}, {"|N,([N]#0 0),0|", 0, "|N,([N]#0 0),0|"},
		{"^_#0", 0, "^_#0"}, {"^([N]#0 |N,^|N,0,0|,0|)", 3, "0"}, {"_^([N]#0 |N,|N,0,+0|,0|)", 3, "+0"}, {"^^_|N,0,#0|", 1, "^^#0"},
		{"@<([N]#0 N),([N]#0 !0),([N]#0 0)>", 3, "0"}, {"@<([N]#0 N),([N]#0 #1),([N]#0 0)>", 1, "@<([N]#0 N),#1,([N]#0 0)>"}, {"@<N,@<N,!0,!0>,#2>", 2, "#2"},
		{"<([N]#0 N),([N]#0 0),([N]#0 0),([N]#0 #1)>", 1, "<([N]#0 N),([N]#0 0),([N]#0 0),#1>"}, {"<N,([N]#0 #4),0,([N]#0 0)>", 3, "#4"}, {"<N,0,[N][N]+#0,++0>", 3, "+<N,0,[N][N]+#0,+0>"}, {"<N,0,[N][N]#0,([N]#0 +0)>", 5, "0"},
		{"<N,0,#3,+^|N,0,0|>", 1, "((#3 ^|N,0,0|) <N,0,#3,^|N,0,0|>)"}, {"(<N,[N]#0,0,0> #1)", 2, "#1"}, {"(^@<N,!0,|N,[N]0,0|> #1)", 3, "0"},
		{"#0", 0, "#0"}, {"*2", 0, "*2"}, {"N", 0, "N"}, {"0", 0, "0"},
	} {
		x := parse(t, c.text)
		seen := checkReduction(t, head(), x, 20, 0, 1, 2, 3)
		got, code := impl.HeadNormal(x, c.steps)
		checkCoded(t, "HeadNormal", x, got, code, parse(t, c.want), impl.NormOk)
		if seen.steps() != c.steps {
			t.Errorf("%s takes %d steps to its head normal term, want %d", c.text, seen.steps(), c.steps)
		}
	}
}

// looping reduces to itself.
func looping(t *testing.T) impl.Term { return parse(t, "([N](#0 #0) [N](#0 #0))") }

func TestTermThatReducesToItself(t *testing.T) {
	x := looping(t)
	for _, o := range orders() {
		for fuel := 0; fuel <= 200; fuel++ {
			got, code := o.normalize(x, fuel)
			checkCoded(t, o.name, x, got, code, impl.Term{}, impl.NormFuel)
		}
		for _, fuel := range []int{-1, 201} {
			got, code := o.normalize(x, fuel)
			checkCoded(t, o.name, x, got, code, impl.Term{}, impl.NormInvalid)
		}
		if o.step != nil {
			got, code := o.step(x)
			checkCoded(t, "a step of "+o.name, x, got, code, x, impl.StepTook)
		}
	}
	got, ok := impl.ContractTerm(x)
	checkTermResult(t, "ContractTerm of the term that reduces to itself", got, ok, x, true)
	if impl.NormalTerm(x) {
		t.Error("the term that reduces to itself is normal")
	}
	// One order ends where the other one does not.
	kept := mk(impl.TermApp, parse(t, "[N]0"), x)
	for fuel, want := range map[int]int{0: impl.NormFuel, 1: impl.NormOk, 200: impl.NormOk} {
		if got, code := impl.Normalize(kept, fuel); code != want || code == impl.NormOk && !equalTerm(got, zero()) {
			t.Errorf("Normalize with fuel %d = %s, %d", fuel, textOrZero(got), code)
		}
		got, code := impl.NormalizeInner(kept, fuel)
		checkCoded(t, "NormalizeInner", kept, got, code, impl.Term{}, impl.NormFuel)
	}
	// What loops is in an operand that the head does not need.
	below := mk(impl.TermSucc, x)
	got, code := impl.HeadNormal(below, 0)
	checkCoded(t, "HeadNormal", below, got, code, below, impl.NormOk)
}

// counting takes 40 steps to z in each order: three for each of 13 numbers,
// and one for zero.
func counting(t *testing.T, z impl.Term) impl.Term {
	return mk(impl.TermElim, parse(t, "[N]N"), z, parse(t, "[N][N]#0"), succs(13, zero()))
}

func TestFuel(t *testing.T) {
	x := zero()
	for range 5 {
		x = counting(t, x)
	}
	further := mk(impl.TermElim, nat(), x, nat(), zero())
	for _, o := range orders() {
		for fuel := range 200 {
			got, code := o.normalize(x, fuel)
			checkCoded(t, o.name, x, got, code, impl.Term{}, impl.NormFuel)
		}
		got, code := o.normalize(x, 200)
		checkCoded(t, o.name, x, got, code, zero(), impl.NormOk)
		got, code = o.normalize(further, 200)
		checkCoded(t, o.name, further, got, code, impl.Term{}, impl.NormFuel)
		for _, term := range []impl.Term{x, further, zero(), variable(0)} {
			for _, fuel := range []int{math.MinInt, -200, -2, -1, 201, 202, 1000, math.MaxInt} {
				got, code := o.normalize(term, fuel)
				checkCoded(t, o.name, term, got, code, impl.Term{}, impl.NormInvalid)
			}
		}
		for _, text := range []string{"#0", "N", "[N](#0 +0)", "<[N]N,0,[N][N]#0,#1>"} {
			for _, fuel := range []int{0, 1, 200} {
				got, code := o.normalize(parse(t, text), fuel)
				checkCoded(t, o.name, parse(t, text), got, code, parse(t, text), impl.NormOk)
			}
		}
		for _, c := range redexCases() {
			got, code := o.normalize(parse(t, c.text), 0)
			checkCoded(t, o.name, parse(t, c.text), got, code, impl.Term{}, impl.NormFuel)
		}
	}
}

// bounds has redexes whose contracta are at a limit or past it.
func bounds(t *testing.T) map[string]struct {
	redex impl.Term
	fits  bool
} {
	two, three := parse(t, "[N]{#0,#0,0}"), parse(t, "[N]{#0,#0,+0}")
	elim := func(p, z, s, a impl.Term) impl.Term { return mk(impl.TermElim, p, z, s, mk(impl.TermSucc, a)) }
	deep := func(depth int) impl.Term { return succs(depth-1, zero()) }
	app := func(text string, u impl.Term) impl.Term { return mk(impl.TermApp, parse(t, text), u) }
	return map[string]struct {
		redex impl.Term
		fits  bool
	}{
		"application, 400 nodes":       {mk(impl.TermApp, two, sized(199)), true},
		"application, 401 nodes":       {mk(impl.TermApp, three, sized(199)), false},
		"application, 402 nodes":       {mk(impl.TermApp, two, sized(200)), false},
		"application, many nodes":      {mk(impl.TermApp, mk(impl.TermLam, nat(), doubled(6, variable(0))), sized(200)), false},
		"application, depth 30":        {app("[N]+#0", deep(29)), true},
		"application, depth 31":        {app("[N]++#0", deep(29)), false},
		"application, variable 20":     {app("[N][N]#1", variable(19)), true},
		"application, variable 21":     {app("[N][N]#1", variable(20)), false},
		"application, 21 in a type":    {app("[N](N>(#1*N))", variable(20)), false},
		"application, lowered to 19":   {app("[N]#20", variable(20)), true},
		"application, 20 not inserted": {app("[N][N]#0", variable(20)), true},
		"recursion, 400 nodes":         {elim(sized(1), sized(2), sized(100), sized(97)), true},
		"recursion, 401 nodes":         {elim(sized(1), sized(1), sized(100), sized(98)), false},
		"recursion, S doubled":         {elim(nat(), zero(), sized(390), zero()), false},
		"recursion, A doubled":         {elim(nat(), zero(), zero(), sized(390)), false},
		"recursion, P at depth 30":     {elim(deep(28), zero(), zero(), zero()), true},
		"recursion, P at depth 31":     {elim(deep(29), zero(), zero(), zero()), false},
		"recursion, Z at depth 30":     {elim(nat(), deep(28), zero(), zero()), true},
		"recursion, Z at depth 31":     {elim(nat(), deep(29), zero(), zero()), false},
		"recursion, S at depth 30":     {elim(nat(), zero(), deep(28), zero()), true},
		"recursion, S at depth 31":     {elim(nat(), zero(), deep(29), zero()), false},
		"recursion, A at depth 30":     {elim(nat(), zero(), zero(), deep(28)), true},
		"zero, 395 nodes":              {mk(impl.TermElim, nat(), sized(396), zero(), zero()), true},
		"first part, depth 28":         {mk(impl.TermFst, mk(impl.TermPair, nat(), deep(28), zero())), true},
	}
}

func TestContractumThatIsNotValid(t *testing.T) {
	for what, c := range bounds(t) {
		if !impl.TermValid(c.redex) || impl.TermValid(wantContractum(c.redex)) != c.fits {
			t.Fatalf("%s: the test is wrong", what)
		}
		checkRoot(t, c.redex)
		if impl.RedexOf(c.redex) == impl.RedexNone || impl.NormalTerm(c.redex) {
			t.Errorf("%s: the term is no redex", what)
		}
		code, normal := impl.StepTook, impl.NormFuel
		if !c.fits {
			code, normal = impl.StepLarge, impl.NormLarge
		}
		next := wantContractum(c.redex)
		if !c.fits {
			next = impl.Term{}
		}
		for _, o := range orders() {
			checkReduction(t, o, c.redex, 3, 0, 1)
			if got, k := o.normalize(c.redex, 0); k != impl.NormFuel || !isZeroTerm(got) {
				t.Errorf("%s: %s without fuel = %d", what, o.name, k)
			}
			if _, k := o.normalize(c.redex, 1); !c.fits && k != normal {
				t.Errorf("%s: %s = %d, want %d", what, o.name, k, normal)
			}
			if o.step != nil {
				got, k := o.step(c.redex)
				checkCoded(t, what+", a step of "+o.name, c.redex, got, k, next, code)
			}
		}
	}
}

// The contractum is valid, but the term after the step may not be.
func TestTermAfterAStepThatIsNotValid(t *testing.T) {
	wide := mk(impl.TermApp, parse(t, "[N]{#0,#0,0}"), sized(99)) // 106 nodes, and 200 after the step
	tall := mk(impl.TermApp, parse(t, "[N]++#0"), succs(4, zero()))
	for _, c := range []struct {
		what string
		term impl.Term
		fits bool
	}{
		{"400 nodes", mk(impl.TermApp, variable(0), mk(impl.TermPi, sized(197), wide)), true},
		{"401 nodes", mk(impl.TermApp, variable(0), mk(impl.TermPi, sized(198), wide)), false},
		{"400 nodes, before others", mk(impl.TermId, wide, sized(198), nat()), true},
		{"401 nodes, before others", mk(impl.TermId, wide, sized(199), nat()), false},
		{"400 nodes, in the head", mk(impl.TermApp, wide, sized(199)), true},
		{"401 nodes, in the head", mk(impl.TermApp, wide, sized(200)), false},
		{"depth 30", succs(23, tall), true},
		{"depth 31", succs(24, tall), false},
		{"depth 31, in a later operand", succs(23, mk(impl.TermApp, zero(), tall)), false},
		{"depth 31, before a redex that fits", succs(23, mk(impl.TermId, tall, parse(t, "^|N,0,0|"), nat())), false},
	} {
		if !impl.TermValid(c.term) {
			t.Fatalf("%s: the test is wrong", c.what)
		}
		checkRoot(t, c.term)
		for _, o := range orders() {
			checkReduction(t, o, c.term, 5, 0, 1, 2)
			if o.step == nil {
				continue
			}
			want := impl.StepTook
			if !c.fits {
				want = impl.StepLarge
			}
			if got, code := o.step(c.term); code != want || !c.fits && !isZeroTerm(got) {
				t.Errorf("%s: a step of %s = %d, want %d", c.what, o.name, code, want)
			}
			if _, code := o.normalize(c.term, 1); !c.fits && code != impl.NormLarge {
				t.Errorf("%s: %s = %d, want NormLarge", c.what, o.name, code)
			}
		}
	}
}

// After some steps: fuel that is used up goes before a step that is too large.
func TestLargeTermAfterSomeSteps(t *testing.T) {
	large := mk(impl.TermApp, parse(t, "[N]{#0,#0,0}"), sized(200))
	x := large
	for range 4 {
		x = mk(impl.TermElim, nat(), x, nat(), zero())
	}
	for _, o := range []order{outside(), head()} {
		for fuel := 0; fuel <= 200; fuel++ {
			want := impl.NormLarge
			if fuel <= 4 {
				want = impl.NormFuel
			}
			got, code := o.normalize(x, fuel)
			checkCoded(t, o.name, x, got, code, impl.Term{}, want)
		}
	}
	// One order passes the limit, and the other one does not.
	pair := mk(impl.TermFst, mk(impl.TermPair, nat(), zero(), sized(200)))
	outerLarge := mk(impl.TermApp, parse(t, "[N]{#0,#0,0}"), pair)
	got, code := impl.Normalize(outerLarge, 200)
	checkCoded(t, "Normalize", outerLarge, got, code, impl.Term{}, impl.NormLarge)
	got, code = impl.NormalizeInner(outerLarge, 2)
	checkCoded(t, "NormalizeInner", outerLarge, got, code, parse(t, "{0,0,0}"), impl.NormOk)
	innerLarge := mk(impl.TermApp, parse(t, "[N]0"), large)
	got, code = impl.NormalizeInner(innerLarge, 200)
	checkCoded(t, "NormalizeInner", innerLarge, got, code, impl.Term{}, impl.NormLarge)
	got, code = impl.Normalize(innerLarge, 1)
	checkCoded(t, "Normalize", innerLarge, got, code, zero(), impl.NormOk)
	// A term that grows until it passes the limit.
	growing := parse(t, "([N]((#0 #0) #0) [N]((#0 #0) #0))")
	for _, o := range orders() {
		if seen := checkReduction(t, o, growing, 200, 1, 2, 10, 199); seen.end != impl.StepLarge || seen.steps() < 5 {
			t.Errorf("%s: the term grows for %d steps, with the code %d", o.name, seen.steps(), seen.end)
		}
	}
}

// randomReducible builds terms with many redexes, also ones that arise from
// others.
func randomReducible(r *rand.Rand, depth, limit int) impl.Term {
	if depth <= 2 || r.Intn(5) == 0 {
		return randomOpen(r, max(1, depth), limit)
	}
	part := func() impl.Term { return randomReducible(r, depth-1-r.Intn(2), limit) }
	function := func() impl.Term { return mk(impl.TermLam, nat(), mk(impl.TermLam, nat(), part())) }
	switch r.Intn(9) {
	case 0, 1, 2:
		return mk(impl.TermApp, mk(impl.TermLam, part(), part()), part())
	case 3:
		return mk(impl.TermElim, nat(), part(), function(), succs(r.Intn(4), zero()))
	case 4:
		return mk(impl.TermElim, part(), part(), part(), succs(r.Intn(2), part()))
	case 5:
		return mk(impl.TermMove, part(), mk(impl.TermRefl, part()), part())
	case 6:
		return mk(impl.TermFst, mk(impl.TermPair, nat(), part(), part()))
	case 7:
		return mk(impl.TermSnd, mk(impl.TermPair, nat(), part(), part()))
	}
	return mk(impl.TermApp, function(), part())
}

// All results are compared with those of the lists of places.
func TestReductionOfRandomTerms(t *testing.T) {
	r := rand.New(rand.NewSource(7))
	ends := map[int]int{}
	for range 3000 {
		x := randomReducible(r, 3+r.Intn(4), 1+r.Intn(4))
		if !impl.TermValid(x) {
			continue
		}
		checkRoot(t, x)
		for _, o := range orders() {
			seen := checkReduction(t, o, x, 12, 0, 1, 2)
			ends[seen.end]++
		}
		if t.Failed() {
			return
		}
	}
	if ends[impl.StepNormal] < 3000 || ends[impl.StepTook] < 100 || ends[impl.StepLarge] < 10 {
		t.Errorf("the terms ended too seldom in some way: %v", ends)
	}
}

func TestBothOrdersLeadToTheSameTerm(t *testing.T) {
	r := rand.New(rand.NewSource(8))
	both, unlike, one, long := 0, 0, 0, 0
	for range 20000 {
		x := randomReducible(r, 4+r.Intn(4), 1+r.Intn(3))
		if !impl.TermValid(x) {
			continue
		}
		a, outer := impl.Normalize(x, 200)
		b, inner := impl.NormalizeInner(x, 200)
		h, code := impl.HeadNormal(x, 200)
		if outer != impl.NormOk || inner != impl.NormOk {
			if outer != inner {
				one++
			}
			continue
		}
		both++
		if !equalTerm(a, b) {
			t.Fatalf("%s leads to %s and %s", textOf(x), textOf(a), textOf(b))
		}
		if !impl.NormalTerm(a) || len(redexesOf(a, false)) > 0 {
			t.Fatalf("%s leads to %s, which is not normal", textOf(x), textOf(a))
		}
		first, _ := impl.StepTerm(x)
		second, _ := impl.StepInner(x)
		if !equalTerm(first, second) {
			unlike++
		}
		if _, k := impl.Normalize(x, 10); k == impl.NormFuel {
			long++
		}
		if code == impl.NormOk {
			if c, k := impl.Normalize(h, 200); k == impl.NormOk && !equalTerm(a, c) {
				t.Fatalf("%s leads to %s, and its head normal term to %s", textOf(x), textOf(a), textOf(c))
			}
		}
	}
	if both < 10000 || unlike < 3000 || one < 50 || long < 300 {
		t.Errorf("%d terms ended in both orders, %d of them with unlike steps and %d after more than 10 steps; %d ended differently", both, unlike, long, one)
	}
}

// Both orders compute with numbers.
func TestReductionOfNumbers(t *testing.T) {
	plus := "[N][N]<[N]N,#1,[N][N]+#0,#0>"
	times := "[N][N]<[N]N,0,[N][N]((" + plus + " #2) #0),#1>"
	before := "[N]<[N]N,0,[N][N]#1,#0>"
	minus := "[N][N]<[N]N,#1,[N][N](" + before + " #0),#0>"
	numeral := func(n int) string { return strings.Repeat("+", n) + "0" }
	for _, c := range []struct {
		name  string
		text  string
		most  int
		value func(a, b int) int
	}{
		{"plus", plus, 10, func(a, b int) int { return a + b }},
		{"times", times, 3, func(a, b int) int { return a * b }},
		{"minus", minus, 5, func(a, b int) int { return max(0, a-b) }},
	} {
		for a := range c.most + 1 {
			for b := range c.most + 1 {
				x := parse(t, "(("+c.text+" "+numeral(a)+") "+numeral(b)+")")
				for _, o := range []order{outside(), inside()} {
					got, code := o.normalize(x, 200)
					checkCoded(t, o.name+", for "+c.name+",", x, got, code, succs(c.value(a, b), zero()), impl.NormOk)
				}
			}
		}
	}
}

func TestReductionOfInvalidTerms(t *testing.T) {
	list := invalidTerms()
	for _, c := range redexCases() {
		x := parse(t, c.text)
		for i := range x.Kids {
			list = append(list, putAt(x, []int{i}, variable(21)))
		}
		wrongN := impl.Term{Kind: x.Kind, N: 1, Kids: x.Kids}
		list = append(list, wrongN, mk(x.Kind, append(slices.Clone(x.Kids), nat())...), mk(x.Kind, x.Kids[:len(x.Kids)-1]...))
		list = append(list, succs(29, x), mk(impl.TermApp, x, sized(400)), mk(impl.TermApp, x, wrongN))
	}
	for i, x := range list {
		if impl.TermValid(x) {
			t.Fatalf("the term %d of the list is valid", i)
		}
		got, ok := impl.ContractTerm(x)
		if impl.RedexOf(x) != impl.RedexNone || ok || !isZeroTerm(got) || impl.NormalTerm(x) {
			t.Errorf("the invalid term %d is accepted as a redex or as normal", i)
		}
		for _, o := range orders() {
			if o.step != nil {
				if got, code := o.step(x); code != impl.StepInvalid || !isZeroTerm(got) {
					t.Errorf("a step of %s for the invalid term %d has the code %d", o.name, i, code)
				}
			}
			for _, fuel := range []int{-1, 0, 1, 200, 201} {
				if got, code := o.normalize(x, fuel); code != impl.NormInvalid || !isZeroTerm(got) {
					t.Errorf("%s of the invalid term %d has the code %d", o.name, i, code)
				}
			}
		}
	}
}

func TestReductionSharesNoMemory(t *testing.T) {
	texts := []string{"[N](#0 +#1)", "(([N]+#0 0) (^|N,+0,0| [+0]+0))", "<[N]N,+0,[N][N]+#0,++0>", "<+#0,+#1,+#2,+#3>", "([N](#0 #0) (#1 +0))", "<[N]N,(+0 0),[N][N](#0 #0),+++0>"}
	for _, c := range redexCases() {
		texts = append(texts, c.text)
	}
	for _, text := range texts {
		x := parse(t, text)
		for i, f := range []func() impl.Term{
			func() impl.Term { y, _ := impl.ContractTerm(x); return y },
			func() impl.Term { y, _ := impl.StepTerm(x); return y },
			func() impl.Term { y, _ := impl.StepInner(x); return y },
			func() impl.Term { y, _ := impl.Normalize(x, 200); return y },
			func() impl.Term { y, _ := impl.NormalizeInner(x, 200); return y },
			func() impl.Term { y, _ := impl.HeadNormal(x, 200); return y },
		} {
			first, second := f(), f()
			want := copyTerm(second)
			if !equalTerm(first, second) {
				t.Errorf("two calls of the function %d for %s return unlike terms", i, text)
			}
			overwrite(first)
			if !equalTerm(second, want) || !equalTerm(x, parse(t, text)) {
				t.Errorf("the result of the function %d for %s shares memory with the argument or with another result", i, text)
			}
			checkSeparateParts(t, second)
		}
	}
}

// checkSeparateParts wants no two nodes of a term to share their operands.
func checkSeparateParts(t *testing.T, x impl.Term) {
	t.Helper()
	seen := map[*impl.Term]bool{}
	var visit func(y impl.Term)
	visit = func(y impl.Term) {
		kids := y.Kids[:cap(y.Kids)]
		for i := range kids {
			if seen[&kids[i]] {
				t.Errorf("two parts of %s share memory", textOf(x))
			}
			seen[&kids[i]] = true
			visit(kids[i])
		}
	}
	visit(x)
}

// Operands may share memory with each other, and there may be memory beyond
// their length.
func TestReductionOfSharedOperands(t *testing.T) {
	for _, c := range redexCases() {
		x, want := doubled(3, parse(t, c.text)), doubled(3, parse(t, c.next))
		for _, o := range []order{outside(), inside()} {
			checkReduction(t, o, x, 60)
			got, code := o.step(x)
			checkCoded(t, "a step of "+o.name, x, got, code, putAt(x, []int{0, 0, 0}, want.Kids[0].Kids[0].Kids[0]), impl.StepTook)
			checkSeparateParts(t, got)
		}
		if !equalTerm(x, doubled(3, parse(t, c.text))) {
			t.Errorf("operands of %s are changed", c.text)
		}
	}
	store := []impl.Term{parse(t, "([N]#0 0)"), parse(t, "^|N,0,0|"), mk(77)}
	x := impl.Term{Kind: impl.TermApp, Kids: store[:2]}
	for _, o := range []order{outside(), inside()} {
		got, code := o.step(x)
		checkCoded(t, "a step of "+o.name, x, got, code, parse(t, "(0 ^|N,0,0|)"), impl.StepTook)
		got, code = o.normalize(x, 9)
		checkCoded(t, o.name, x, got, code, parse(t, "(0 0)"), impl.NormOk)
	}
	if got, code := impl.HeadNormal(x, 9); code != impl.NormOk || !equalTerm(got, parse(t, "(0 ^|N,0,0|)")) {
		t.Errorf("HeadNormal = %s, %d", textOrZero(got), code)
	}
	if !equalTerm(store[0], parse(t, "([N]#0 0)")) || !equalTerm(store[1], parse(t, "^|N,0,0|")) || store[2].Kind != 77 {
		t.Error("the memory of an argument is changed")
	}
}

package tests

import (
	"math"
	"math/rand"
	"slices"
	"strconv"
	"testing"

	"loop.example/depkernel/impl"
)

// Promise 4: conversion is an equivalence, and development preserves it.

// The functions whose names begin with want are chapter 4, written down a
// second time. They compare and develop whole terms.

// wantConvertible needs traces that were allowed at least as many steps as
// there is fuel.
func wantConvertible(a, b trace, fuel int) int {
	if equalTerm(a.terms[0], b.terms[0]) {
		return impl.ConvYes
	}
	x, first := a.normalized(fuel)
	y, second := b.normalized(fuel)
	switch {
	case first != impl.NormOk || second != impl.NormOk:
		return impl.ConvOpen
	case equalTerm(x, y):
		return impl.ConvYes
	}
	return impl.ConvNo
}

// allPlaces lists the places of the nodes of t, those of operands first.
func allPlaces(t impl.Term) [][]int {
	var list [][]int
	for i, kid := range t.Kids {
		for _, place := range allPlaces(kid) {
			list = append(list, append([]int{i}, place...))
		}
	}
	return append(list, []int{})
}

// wantDevelop contracts at the places of the redexes of t, those of operands
// first. It also reports whether the result for each part is valid.
func wantDevelop(t impl.Term) (impl.Term, bool) {
	x := t
	for _, place := range allPlaces(t) {
		part := partAt(x, place)
		if wantCode(partAt(t, place)) != 0 {
			part = wantContractum(part)
			x = putAt(x, place, part)
		}
		if !impl.TermValid(part) {
			return impl.Term{}, false
		}
	}
	return x, true
}

// checkConvertible wants one result in both orders of the arguments.
func checkConvertible(t *testing.T, a, b impl.Term, fuel int, want int) {
	t.Helper()
	first, second := impl.Convertible(a, b, fuel), impl.Convertible(b, a, fuel)
	if first != want || second != want {
		t.Errorf("Convertible of %s and %s with fuel %d = %d, and %d in the other order, want %d", textOf(a), textOf(b), fuel, first, second, want)
	}
}

// checkFuels compares Convertible for two valid terms, with fuels around
// their numbers of steps.
func checkFuels(t *testing.T, a, b impl.Term, most int) {
	t.Helper()
	first, second := outside().traceOf(a, most), outside().traceOf(b, most)
	for _, steps := range []int{0, first.steps(), second.steps(), most} {
		for fuel := max(0, steps-1); fuel <= min(steps+1, most); fuel++ {
			checkConvertible(t, a, b, fuel, wantConvertible(first, second, fuel))
		}
	}
}

func checkSteps(t *testing.T, x impl.Term, fuel, want, wantCode int) {
	t.Helper()
	if steps, code := impl.ReduceSteps(x, fuel); steps != want || code != wantCode {
		t.Errorf("ReduceSteps of %s and %d = %d, %d, want %d, %d", textOf(x), fuel, steps, code, want, wantCode)
	}
}

// checkSeen compares ReduceSteps and TraceTerm for a valid term with its
// trace, which must have been allowed at least 12 steps.
func checkSeen(t *testing.T, x impl.Term, seen trace, fuels ...int) {
	t.Helper()
	for _, fuel := range append([]int{0, seen.steps() - 1, seen.steps(), seen.steps() + 1}, fuels...) {
		if fuel < 0 || fuel > seen.steps() && seen.end == impl.StepTook {
			continue
		}
		_, code := seen.normalized(fuel)
		checkSteps(t, x, fuel, min(fuel, seen.steps()), code)
	}
	checkTrace(t, x, seen.terms[:min(12, len(seen.terms))])
}

func checkTrace(t *testing.T, x impl.Term, want []impl.Term) {
	t.Helper()
	list := impl.TraceTerm(x)
	if !slices.EqualFunc(list, want, equalTerm) {
		t.Errorf("TraceTerm of %s = %d terms %s, want %d terms %s", textOf(x), len(list), textsOf(list), len(want), textsOf(want))
	}
}

func textsOf(list []impl.Term) []string {
	var texts []string
	for _, x := range list {
		texts = append(texts, textOrZero(x))
	}
	return texts
}

// checkDevelopment compares DevelopTerm and CountRedexes for a valid term.
func checkDevelopment(t *testing.T, x impl.Term) {
	t.Helper()
	want, exists := wantDevelop(x)
	got, ok := impl.DevelopTerm(x)
	checkTermResult(t, "DevelopTerm of "+textOf(x), got, ok, want, exists)
	if n := impl.CountRedexes(x); n != len(redexesOf(x, false)) {
		t.Errorf("CountRedexes of %s = %d, want %d", textOf(x), n, len(redexesOf(x, false)))
	}
}

// checkAll compares all functions of the chapter for a valid term, which is
// compared with the others.
func checkAll(t *testing.T, x impl.Term, others ...impl.Term) {
	t.Helper()
	checkSeen(t, x, outside().traceOf(x, 20), 20)
	checkDevelopment(t, x)
	for _, y := range append(others, x) {
		checkFuels(t, x, y, 20)
	}
}

func TestConvertibleTerms(t *testing.T) {
	plus := "[N][N]<[N]N,#1,[N][N]+#0,#0>"
	for _, c := range []struct {
		a, b string
		fuel int // just enough, if it is not 0
		want int
	}{
		// Equal terms, normal or not.
		{"#0", "#0", 0, impl.ConvYes}, {"[N](#0 #1)", "[N](#0 #1)", 0, impl.ConvYes}, {"([N]+#0 ++0)", "([N]+#0 ++0)", 0, impl.ConvYes}, {"*3", "*3", 0, impl.ConvYes},
		// Terms that differ, with the same normal term.
		{"([N]+#0 ++0)", "+++0", 1, impl.ConvYes}, {"([N]+#0 ([N]++#0 0))", "+++0", 2, impl.ConvYes}, {"([N]+#0 ([N]++#0 0))", "([N]++#0 ([N]+#0 0))", 2, impl.ConvYes},
		{"(([N][N]#1 #4) 0)", "#4", 2, impl.ConvYes}, {"[N]([*0]#0 N)", "[([*0]#0 N)]N", 1, impl.ConvYes}, {"^|N,#0,0|", "_|N,0,#0|", 1, impl.ConvYes}, {"@<N,!0,#3>", "<N,#3,0,0>", 1, impl.ConvYes},
		{"((" + plus + " ++0) +0)", "((" + plus + " +0) ++0)", 9, impl.ConvYes}, {"((" + plus + " +++0) 0)", "+++0", 3, impl.ConvYes},
		{"<^|N,0,0|,#1,0,([N]#0 0)>", "#1", 3, impl.ConvYes}, {"(^|N,[N]#0,0| #2)", "#2", 2, impl.ConvYes}, {"@<([N]N 0),([N]!#0 0),#2>", "#2", 3, impl.ConvYes},
		// Terms with different normal terms.
		{"#0", "#1", 0, impl.ConvNo}, {"*0", "*1", 0, impl.ConvNo}, {"N", "0", 0, impl.ConvNo}, {"0", "+0", 0, impl.ConvNo}, {"[N]#0", "[*0]#0", 0, impl.ConvNo}, {"(N>N)", "(N*N)", 0, impl.ConvNo}, {"{N,0,0}", "|N,0,0|", 0, impl.ConvNo},
		{"([N]+#0 ++0)", "++0", 1, impl.ConvNo}, {"([N]+#0 ([N]++#0 0))", "([N]++#0 ++0)", 2, impl.ConvNo}, {"([N]#0 #0)", "([N]#0 #1)", 1, impl.ConvNo}, {"((" + plus + " 0) ++0)", "+++0", 9, impl.ConvNo},
		{"(#0 ([N]#0 0))", "(#1 0)", 1, impl.ConvNo}, {"(([N]#0 #1) 0)", "(#1 +0)", 1, impl.ConvNo}, {"[N](#0 #1)", "[N](#1 #0)", 0, impl.ConvNo}, {"[N](#1 #0)", "#0", 0, impl.ConvNo},
		// One normal term begins like the other one.
		{"(#0 ([N]#0 0))", "#0", 1, impl.ConvNo}, {"+([N]#0 0)", "0", 1, impl.ConvNo}, {"<N,0,0,#0>", "N", 0, impl.ConvNo},
	} {
		a, b := parse(t, c.a), parse(t, c.b)
		for _, fuel := range []int{c.fuel, c.fuel + 1, 200} {
			checkConvertible(t, a, b, fuel, c.want)
		}
		if c.fuel > 0 {
			checkConvertible(t, a, b, c.fuel-1, impl.ConvOpen)
			checkConvertible(t, a, b, 0, impl.ConvOpen)
		}
		for _, fuel := range []int{math.MinInt, -1, 201, math.MaxInt} {
			checkConvertible(t, a, b, fuel, impl.ConvInvalid)
		}
		checkAll(t, a, b)
		checkAll(t, b, a)
	}
}

// A redex of every code is convertible with its contractum and with no other
// normal term, at the root and as each operand of each kind.
func TestConversionOfEveryCode(t *testing.T) {
	other := parse(t, "(#5 *3)")
	for _, c := range redexCases() {
		x, next := parse(t, c.text), parse(t, c.next)
		normal, _ := outside().traceOf(x, 20).normalized(20)
		list := [][]impl.Term{{x, next, normal, other}}
		everyPlace(func(kind, index int) {
			deep, _ := outside().traceOf(around(kind, index, normal), 20).normalized(20)
			list = append(list, []impl.Term{around(kind, index, x), around(kind, index, next), deep, around(kind, index, other)})
		})
		for _, l := range list {
			steps, code := impl.ReduceSteps(l[0], 20)
			if code != impl.NormOk || steps < 1 {
				t.Fatalf("the test is wrong for %s", textOf(l[0]))
			}
			for _, y := range l[1:3] {
				checkConvertible(t, l[0], y, steps, impl.ConvYes)
				checkConvertible(t, l[0], y, steps-1, impl.ConvOpen)
			}
			checkConvertible(t, l[0], l[3], steps, impl.ConvNo)
			checkConvertible(t, l[0], l[3], steps-1, impl.ConvOpen)
			checkAll(t, l[0], l[1], l[2], l[3])
		}
	}
}

// All nodes above a redex may be equal, and the parts of both terms that are
// compared may be normal long before the terms are.
func TestDifferenceBeforeALimit(t *testing.T) {
	loop := looping(t)
	for _, c := range [][]string{{"#0", "#1"}, {"#0", "#0"}, {"+++0", "+0"}} {
		a, b := mk(impl.TermApp, parse(t, c[0]), loop), mk(impl.TermApp, parse(t, c[1]), zero())
		for fuel := 0; fuel <= 200; fuel++ {
			checkConvertible(t, a, b, fuel, impl.ConvOpen)
		}
	}
	// A node that becomes a redex after others have been normal.
	for _, c := range [][]string{
		{"<#1,#2,#3,([N]#0 0)>", "#2"}, {"<([N]#0 #1),#2,#3,^|N,0,0|>", "#2"}, {"<#1,([N]#0 #2),#3,([N]#0 #4)>", "<#1,#2,#3,#4>"},
		{"@<([N]#0 #1),([N]!#0 0),#4>", "#4"}, {"@<([N]#0 #1),([N]#0 #2),#4>", "@<#1,#2,#4>"}, {"((([N]#0 #1) 0) 0)", "((#1 0) 0)"}, {"(([N]([N]#0 [N]#0) 0) #3)", "#3"},
		{"^([N]|N,#0,#1| #3)", "#3"}, {"_([N]|N,#0,#1| #3)", "#0"}, {"^^([N]|N,|N,#0,#0|,#1| #3)", "#3"}, {"(<#1,[N]#0,#3,([N]#0 0)> #5)", "#5"}, {"[N]<#1,#2,([N]#0 #3),([N]#0 0)>", "[N]#2"},
	} {
		a, b := parse(t, c[0]), parse(t, c[1])
		checkConvertible(t, a, b, 200, impl.ConvYes)
		checkConvertible(t, mk(impl.TermPair, nat(), a, b), mk(impl.TermPair, nat(), b, a), 200, impl.ConvYes)
		checkConvertible(t, mk(impl.TermPair, nat(), a, b), mk(impl.TermPair, nat(), b, zero()), 200, impl.ConvNo)
		checkAll(t, a, b)
	}
}

func TestEqualTermsWithoutANormalTerm(t *testing.T) {
	loop := looping(t)
	wide := mk(impl.TermApp, parse(t, "[N]{#0,#0,0}"), sized(200)) // too large after its first step
	around := mk(impl.TermApp, loop, zero())
	for fuel := 0; fuel <= 200; fuel++ {
		checkConvertible(t, loop, loop, fuel, impl.ConvYes)
		checkConvertible(t, loop, looping(t), fuel, impl.ConvYes)
		checkConvertible(t, wide, copyTerm(wide), fuel, impl.ConvYes)
		checkConvertible(t, around, copyTerm(around), fuel, impl.ConvYes)
		for _, other := range []impl.Term{zero(), around, wide, parse(t, "([N]#0 0)"), mk(impl.TermApp, parse(t, "[N]#0"), loop)} {
			checkConvertible(t, loop, other, fuel, impl.ConvOpen)
		}
		checkConvertible(t, wide, zero(), fuel, impl.ConvOpen)
		checkConvertible(t, wide, around, fuel, impl.ConvOpen)
		checkSteps(t, loop, fuel, fuel, impl.NormFuel)
		checkSteps(t, wide, fuel, 0, map[bool]int{true: impl.NormFuel, false: impl.NormLarge}[fuel == 0])
	}
	for _, fuel := range []int{math.MinInt, -200, -1, 201, 1000, math.MaxInt} {
		for _, x := range []impl.Term{loop, wide, zero(), variable(0)} {
			checkConvertible(t, x, x, fuel, impl.ConvInvalid)
			checkConvertible(t, x, nat(), fuel, impl.ConvInvalid)
			checkSteps(t, x, fuel, 0, impl.NormInvalid)
		}
	}
	// What has no normal term is not needed.
	kept := mk(impl.TermApp, parse(t, "[N]0"), loop)
	checkConvertible(t, kept, zero(), 0, impl.ConvOpen)
	checkConvertible(t, kept, zero(), 1, impl.ConvYes)
	checkConvertible(t, kept, nat(), 1, impl.ConvNo)
}

// Each of both terms has the whole fuel, and a normal term needs none.
func TestFuelOfAConversion(t *testing.T) {
	x, y := zero(), variable(3)
	for range 5 {
		x, y = counting(t, x), counting(t, y)
	}
	further := mk(impl.TermElim, nat(), x, nat(), zero())
	checkSteps(t, x, 200, 200, impl.NormOk)
	checkSteps(t, x, 199, 199, impl.NormFuel)
	checkSteps(t, x, 0, 0, impl.NormFuel)
	checkSteps(t, further, 200, 200, impl.NormFuel)
	longer := mk(impl.TermPair, nat(), x, zero())
	for _, c := range []struct {
		a, b impl.Term
		fuel int
		want int
	}{
		{x, zero(), 200, impl.ConvYes}, {x, zero(), 199, impl.ConvOpen}, {x, zero(), 0, impl.ConvOpen}, {x, zero(), 201, impl.ConvInvalid}, {x, x, 0, impl.ConvYes}, {x, x, 201, impl.ConvInvalid},
		{x, y, 200, impl.ConvNo}, {x, y, 199, impl.ConvOpen}, {x, nat(), 200, impl.ConvNo}, {y, variable(3), 200, impl.ConvYes}, {y, variable(3), 199, impl.ConvOpen},
		{x, mk(impl.TermApp, parse(t, "[N]#0"), zero()), 200, impl.ConvYes}, {longer, parse(t, "|N,0,0|"), 200, impl.ConvYes}, {longer, parse(t, "|N,0,0|"), 199, impl.ConvOpen}, {longer, zero(), 200, impl.ConvNo},
		{further, zero(), 200, impl.ConvOpen}, {further, x, 200, impl.ConvOpen}, {further, further, 200, impl.ConvYes}, {further, nat(), 200, impl.ConvOpen},
		{zero(), nat(), 0, impl.ConvNo}, {zero(), zero(), 0, impl.ConvYes}, {zero(), nat(), 200, impl.ConvNo}, {zero(), nat(), 201, impl.ConvInvalid}, {zero(), zero(), 201, impl.ConvInvalid}, {zero(), zero(), -1, impl.ConvInvalid},
	} {
		checkConvertible(t, c.a, c.b, c.fuel, c.want)
	}
}

func TestConversionThatBecomesTooLarge(t *testing.T) {
	large := mk(impl.TermApp, parse(t, "[N]{#0,#0,0}"), sized(200))
	x := large
	for range 4 {
		x = mk(impl.TermElim, nat(), x, nat(), zero())
	}
	for fuel := 0; fuel <= 200; fuel++ {
		want := impl.NormLarge
		if fuel <= 4 {
			want = impl.NormFuel
		}
		checkSteps(t, x, fuel, min(fuel, 4), want)
		checkConvertible(t, x, zero(), fuel, impl.ConvOpen)
		checkConvertible(t, x, large, fuel, impl.ConvOpen)
		// The first operands differ already.
		checkConvertible(t, mk(impl.TermApp, variable(0), x), mk(impl.TermApp, variable(1), zero()), fuel, impl.ConvOpen)
	}
	checkTrace(t, x, []impl.Term{x, x.Kids[1], x.Kids[1].Kids[1], x.Kids[1].Kids[1].Kids[1], large})
	growing := parse(t, "([N]((#0 #0) #0) [N]((#0 #0) #0))")
	seen := outside().traceOf(growing, 200)
	if seen.end != impl.StepLarge || seen.steps() < 12 {
		t.Fatalf("the term grows for %d steps", seen.steps())
	}
	checkSeen(t, growing, seen, 200)
	// A term of 400 nodes is compared, and one of 401 nodes is not produced.
	two := parse(t, "[N]{#0,#0,0}")
	fits := mk(impl.TermApp, two, sized(199))
	checkConvertible(t, fits, mk(impl.TermId, sized(199), sized(199), zero()), 1, impl.ConvYes)
	checkConvertible(t, fits, mk(impl.TermId, sized(199), sized(199), nat()), 1, impl.ConvNo)
	wide := mk(impl.TermApp, parse(t, "[N]{#0,#0,+0}"), sized(199))
	checkConvertible(t, wide, fits, 200, impl.ConvOpen)
	for what, c := range bounds(t) {
		checkFuels(t, c.redex, zero(), 20)
		checkSeen(t, c.redex, outside().traceOf(c.redex, 20))
		if c.fits && impl.Convertible(c.redex, wantContractum(c.redex), 20) == impl.ConvNo {
			t.Errorf("%s: the redex is not convertible with its contractum", what)
		}
	}
}

func TestTraces(t *testing.T) {
	for _, c := range [][]string{
		{"#0"}, {"[N](#0 #1)"}, {"([N]+#0 ([N]++#0 0))", "+([N]++#0 0)", "+++0"}, {"(^|N,0,0| _|N,0,+0|)", "(0 _|N,0,+0|)", "(0 +0)"},
		{"<[N]N,0,[N][N]+#0,+0>", "(([N][N]+#0 0) <[N]N,0,[N][N]+#0,0>)", "([N]+#0 <[N]N,0,[N][N]+#0,0>)", "+<[N]N,0,[N][N]+#0,0>", "+0"},
		{"([N]0 ([N]#0 0))", "0"}, {"(@<N,!0,[N]#0> ([N]#0 0))", "([N]#0 ([N]#0 0))", "([N]#0 0)", "0"},
	} {
		var want []impl.Term
		for _, text := range c {
			want = append(want, parse(t, text))
		}
		checkTrace(t, want[0], want)
		checkSteps(t, want[0], 200, len(want)-1, impl.NormOk)
	}
	// Terms with n steps: up to 11 of them, the trace ends with the normal term.
	for n := range 15 {
		x := zero()
		for range n {
			x = mk(impl.TermMove, nat(), parse(t, "!0"), x)
		}
		var want []impl.Term
		for y := x; len(want) < 12; y = y.Kids[2] {
			want = append(want, y)
			if y.Kind == impl.TermZero {
				break
			}
		}
		if len(want) != min(n+1, 12) {
			t.Fatalf("the test is wrong for %d steps", n)
		}
		checkTrace(t, x, want)
		checkSteps(t, x, 200, n, impl.NormOk)
		checkSteps(t, x, n, n, impl.NormOk)
		if n > 0 {
			checkSteps(t, x, n-1, n-1, impl.NormFuel)
		}
	}
	loop := looping(t)
	checkTrace(t, loop, slices.Repeat([]impl.Term{loop}, 12))
	// A step that would be too large, as the one after the term with the index n.
	for n := range 14 {
		x := mk(impl.TermApp, parse(t, "[N]{#0,#0,0}"), sized(200))
		for range n {
			x = mk(impl.TermMove, nat(), parse(t, "!0"), x)
		}
		if list := impl.TraceTerm(x); len(list) != min(n+1, 12) || !equalTerm(list[0], x) {
			t.Errorf("TraceTerm returns %d terms, with a step that is too large after %d steps", len(list), n)
		}
		checkSteps(t, x, 200, n, impl.NormLarge)
		checkSteps(t, x, n+1, n, impl.NormLarge)
		checkSteps(t, x, n, n, impl.NormFuel)
	}
}

func TestDevelopments(t *testing.T) {
	for _, c := range []struct {
		text    string
		redexes int
		want    string
	}{
		{"#0", 0, "#0"}, {"[N](#0 #1)", 0, "[N](#0 #1)"}, {"<[N]N,0,[N][N]#0,#1>", 0, "<[N]N,0,[N][N]#0,#1>"},
		{"([N]+#0 ([N]++#0 0))", 2, "+++0"}, {"{([N]#0 N),^|N,0,0|,_|N,0,+0|}", 3, "{N,0,+0}"}, {"([N](#0 #0) ([N]#0 #3))", 2, "(#3 #3)"}, {"([N]([N]#1 #0) +0)", 2, "+0"},
		// Redexes that a step creates, in each of the ways in which this may happen.
		{"([(N>N)](#0 0) [N]+#0)", 1, "([N]+#0 0)"}, {"(([N][N]#1 0) +0)", 1, "([N]0 +0)"}, {"(([N]#0 [N]+#0) 0)", 1, "([N]+#0 0)"}, {"^([N]|N,#0,0| +0)", 1, "^|N,+0,0|"}, {"_^|N,|N,0,+0|,0|", 1, "_|N,0,+0|"},
		{"<N,#1,#2,([N]#0 0)>", 1, "<N,#1,#2,0>"}, {"<N,#1,#2,^|N,+#3,0|>", 1, "<N,#1,#2,+#3>"}, {"@<N,([N]!#0 0),#2>", 1, "@<N,!0,#2>"}, {"([N]<N,0,#0,#0> +#4)", 1, "<N,0,+#4,+#4>"},
		{"<[N]N,0,[N][N]+#0,++0>", 1, "(([N][N]+#0 +0) <[N]N,0,[N][N]+#0,+0>)"}, {"([N](#0 #0) [N](#0 #0))", 1, "([N](#0 #0) [N](#0 #0))"},
		{"([(N>N)]([N]#0 (#0 0)) [N]([N]#0 #0))", 3, "([N]#0 0)"}, {"(<N,[N]+#0,0,0> ([N]#0 0))", 2, "([N]+#0 0)"},
		// A redex in each operand of a redex of each code.
		{"([([N]#0 N)]([N]+#0 #0) ([N]#0 #3))", 4, "+#3"}, {"<([N]#0 N),([N]#0 #1),([N]#0 #2),0>", 4, "#1"}, {"<([N]#0 N),([N]#0 #1),([N]#0 #2),+([N]#0 #3)>", 5, "((#2 #3) <N,#1,#2,#3>)"},
		{"@<([N]#0 N),!([N]#0 #1),([N]#0 #2)>", 4, "#2"}, {"^|([N]#0 N),([N]#0 #1),([N]#0 #2)|", 4, "#1"}, {"_|([N]#0 N),([N]#0 #1),([N]#0 #2)|", 4, "#2"},
		// Variables of binders around the redexes and inside of them.
		{"[N]([N](#0 #1) ([N]#1 0))", 2, "[N](#0 #0)"}, {"([N][N]([N](#0 (#1 #2)) #1) #7)", 2, "[N](#8 (#0 #8))"}, {"[N][N](([*0](#0>#2) #1)*_|N,#0,(#1 #2)|)", 2, "[N][N]((#1>#1)*(#1 #2))"},
	} {
		x := parse(t, c.text)
		got, ok := impl.DevelopTerm(x)
		checkText(t, "DevelopTerm of "+c.text, got, ok, c.want)
		if n := impl.CountRedexes(x); n != c.redexes {
			t.Errorf("CountRedexes of %s = %d, want %d", c.text, n, c.redexes)
		}
		checkAll(t, x, got)
	}
}

func TestDevelopmentOfEveryCode(t *testing.T) {
	for _, c := range redexCases() {
		x := parse(t, c.text)
		got, ok := impl.DevelopTerm(x)
		checkText(t, "DevelopTerm of "+c.text, got, ok, c.next)
		if n := impl.CountRedexes(x); n != 1 {
			t.Errorf("CountRedexes of %s = %d, want 1", c.text, n)
		}
		everyPlace(func(kind, index int) {
			deep := around(kind, index, x)
			got, ok := impl.DevelopTerm(deep)
			checkTermResult(t, "DevelopTerm of "+textOf(deep), got, ok, around(kind, index, parse(t, c.next)), true)
			checkAll(t, deep, got)
		})
		// Each redex, as each operand of each redex.
		for _, d := range redexCases() {
			for i := range parse(t, d.text).Kids {
				checkAll(t, putAt(parse(t, d.text), []int{i}, x))
			}
			for _, place := range redexPlaces(parse(t, d.text)) {
				checkAll(t, putAt(parse(t, d.text), place, x))
			}
		}
	}
}

// redexPlaces lists the places of the operands of the main operand of a redex.
func redexPlaces(x impl.Term) [][]int {
	var list [][]int
	main := wantMain(x.Kind)
	for i := range x.Kids[main].Kids {
		list = append(list, []int{main, i})
	}
	return list
}

// wideTo develops to `{A,A,0}`, where A has the given number of nodes.
func wideTo(t *testing.T, nodes int) impl.Term {
	return mk(impl.TermApp, parse(t, "[N]{#0,#0,0}"), sized(nodes))
}

func TestDevelopmentThatIsNotValid(t *testing.T) {
	w99, w198, w199, w200 := wideTo(t, 99), wideTo(t, 198), wideTo(t, 199), wideTo(t, 200) // 200, 398, 400 and 402 nodes
	// deep develops to a term of the given depth, which is greater by 2 than before.
	deep := func(depth int) impl.Term { return mk(impl.TermApp, parse(t, "[N]+++#0"), succs(depth-4, zero())) }
	pair := func(x, y impl.Term) impl.Term { return mk(impl.TermPair, nat(), x, y) }
	for what, c := range map[string]struct {
		term impl.Term
		fits bool
	}{
		"400 nodes": {w199, true},
		"402 nodes": {w200, false},
		// The whole is not valid, but all parts are.
		"whole, 400 nodes":        {mk(impl.TermId, w99, sized(198), nat()), true},
		"whole, 401 nodes":        {mk(impl.TermId, w99, sized(199), nat()), false},
		"whole, 401 nodes, twice": {mk(impl.TermApp, w99, w99), false},
		"whole, depth 30":         {succs(22, deep(8)), true},
		"whole, depth 31":         {succs(23, deep(8)), false},
		"whole, depth 30, later":  {mk(impl.TermId, zero(), zero(), deep(29)), true},
		"whole, depth 31, later":  {mk(impl.TermId, zero(), zero(), deep(30)), false},
		"whole, variable 20":      {mk(impl.TermLam, nat(), mk(impl.TermApp, parse(t, "[N][N]#1"), variable(19))), true},
		"whole, variable 21":      {mk(impl.TermLam, nat(), mk(impl.TermApp, parse(t, "[N][N]#1"), variable(20))), false},
		// The result for a part is not valid, and would be dropped.
		"argument, 400 nodes":           {mk(impl.TermApp, parse(t, "[N]0"), w199), true},
		"argument, 402 nodes":           {mk(impl.TermApp, parse(t, "[N]0"), w200), false},
		"argument, depth 30":            {mk(impl.TermApp, parse(t, "[N]0"), deep(30)), true},
		"argument, depth 31":            {mk(impl.TermApp, parse(t, "[N]0"), deep(31)), false},
		"type of a function, 402 nodes": {mk(impl.TermApp, mk(impl.TermLam, w200, zero()), zero()), false},
		"function, 400 nodes":           {mk(impl.TermApp, mk(impl.TermLam, w198, zero()), zero()), true},
		"function, 401 nodes":           {mk(impl.TermApp, mk(impl.TermLam, w198, succs(1, zero())), zero()), false},
		"pair, 400 nodes":               {mk(impl.TermFst, pair(succs(1, zero()), wideTo(t, 197))), true},
		"pair, 401 nodes":               {mk(impl.TermFst, pair(zero(), w198)), false},
		"pair, depth 30":                {mk(impl.TermFst, pair(zero(), deep(29))), true},
		"pair, depth 31":                {mk(impl.TermFst, pair(zero(), deep(30))), false},
		"family, 402 nodes":             {mk(impl.TermElim, w200, zero(), zero(), zero()), false},
		"result, 402 nodes":             {mk(impl.TermElim, nat(), zero(), w200, zero()), false},
		"side, 402 nodes":               {mk(impl.TermMove, nat(), mk(impl.TermRefl, w200), zero()), false},
		"proof, 400 nodes":              {mk(impl.TermMove, nat(), mk(impl.TermRefl, succs(1, w198)), zero()), true},
		"proof, 401 nodes":              {mk(impl.TermMove, nat(), mk(impl.TermRefl, w199), zero()), false},
		"part of a part, 400 nodes":     {mk(impl.TermFst, pair(zero(), mk(impl.TermApp, parse(t, "[N]0"), w199))), true},
		"part of a part, 402 nodes":     {mk(impl.TermFst, pair(zero(), mk(impl.TermApp, parse(t, "[N]0"), w200))), false},
		// The redex with developed operands would not be valid, but it is not
		// the result for a part.
		"redex, over 400 nodes":       {mk(impl.TermElim, wideTo(t, 60), w99, w99, zero()), true},
		"redex, depth 31":             {mk(impl.TermElim, nat(), zero(), deep(30), zero()), true},
		"redex, depth 31, the result": {mk(impl.TermElim, nat(), deep(30), zero(), zero()), true},
		"contractum, depth 30":        {mk(impl.TermElim, nat(), zero(), deep(28), parse(t, "+0")), true},
		"contractum, depth 31":        {mk(impl.TermElim, nat(), zero(), deep(29), parse(t, "+0")), false},
		"contractum, over 400 nodes":  {mk(impl.TermElim, nat(), zero(), w99, mk(impl.TermSucc, w99)), false},
	} {
		if !impl.TermValid(c.term) {
			t.Fatalf("%s: the test is wrong", what)
		}
		got, ok := impl.DevelopTerm(c.term)
		if ok != c.fits || !ok && !isZeroTerm(got) || ok && !impl.TermValid(got) {
			t.Errorf("%s: DevelopTerm = %s, %v", what, textOrZero(got), ok)
		}
		checkDevelopment(t, c.term)
		everyPlace(func(kind, index int) {
			if x := around(kind, index, c.term); impl.TermValid(x) {
				checkDevelopment(t, x)
			}
		})
	}
	for _, c := range bounds(t) {
		checkDevelopment(t, c.redex)
	}
}

func TestCountsOfRedexes(t *testing.T) {
	for _, c := range redexCases() {
		for levels := range 5 {
			x := doubled(levels, parse(t, c.text))
			if n := impl.CountRedexes(x); n != 1<<levels {
				t.Errorf("CountRedexes of %s = %d, want %d", textOf(x), n, 1<<levels)
			}
		}
	}
	x := zero()
	for n := range 29 {
		if got := impl.CountRedexes(x); got != n {
			t.Errorf("CountRedexes of %s = %d, want %d", textOf(x), got, n)
		}
		x = mk(impl.TermApp, parse(t, "[N]#0"), x)
	}
	if n := impl.CountRedexes(x); n != 0 || impl.TermValid(x) {
		t.Errorf("CountRedexes of a term that is too deep = %d", n)
	}
}

// contractAny contracts a redex that is chosen at random, or returns false.
func contractAny(r *rand.Rand, x impl.Term) (impl.Term, bool) {
	places := redexesOf(x, false)
	if len(places) == 0 {
		return x, false
	}
	place := places[r.Intn(len(places))]
	next := putAt(x, place, wantContractum(partAt(x, place)))
	return next, impl.TermValid(next)
}

// changeAny replaces a part of x that is chosen at random by a small term.
func changeAny(r *rand.Rand, x impl.Term) impl.Term {
	places := allPlaces(x)
	return putAt(x, places[r.Intn(len(places))], randomOpen(r, 1, 3))
}

func TestConversionOfRandomTerms(t *testing.T) {
	r := rand.New(rand.NewSource(9))
	counts := map[int]int{}
	for range 1500 {
		x := randomReducible(r, 3+r.Intn(4), 1+r.Intn(4))
		if !impl.TermValid(x) {
			continue
		}
		others := []impl.Term{changeAny(r, x), randomReducible(r, 3, 2)}
		if next, ok := contractAny(r, x); ok {
			others = append(others, next, changeAny(r, next))
		}
		others = slices.DeleteFunc(others, func(y impl.Term) bool { return !impl.TermValid(y) })
		checkAll(t, x, others...)
		for _, y := range others {
			counts[impl.Convertible(x, y, 20)]++
		}
		if t.Failed() {
			return
		}
	}
	if counts[impl.ConvYes] < 1000 || counts[impl.ConvNo] < 1000 || counts[impl.ConvOpen] < 100 || len(counts) != 3 {
		t.Errorf("some results were too seldom: %v", counts)
	}
}

// Conversion is reflexive, symmetric and transitive. Terms that are joined by
// steps are convertible, as far as this is decided.
func TestConversionIsAnEquivalence(t *testing.T) {
	r := rand.New(rand.NewSource(10))
	chains, apart := 0, 0
	for range 2000 {
		x := randomReducible(r, 4+r.Intn(3), 1+r.Intn(3))
		if !impl.TermValid(x) {
			continue
		}
		if impl.Convertible(x, copyTerm(x), 0) != impl.ConvYes {
			t.Fatalf("%s is not convertible with itself", textOf(x))
		}
		list := []impl.Term{x, changeAny(r, x)}
		for y, ok := contractAny(r, x); ok && len(list) < 5; y, ok = contractAny(r, y) {
			list = append(list, y)
			if impl.Convertible(x, y, 200) == impl.ConvNo {
				t.Fatalf("%s is not convertible with %s, to which it leads", textOf(x), textOf(y))
			}
		}
		list = slices.DeleteFunc(list, func(y impl.Term) bool { return !impl.TermValid(y) })
		known := map[string]int{}
		for i, a := range list {
			for j, b := range list {
				known[strconv.Itoa(i)+" "+strconv.Itoa(j)] = impl.Convertible(a, b, 200)
			}
		}
		between := func(i, j int) int { return known[strconv.Itoa(i)+" "+strconv.Itoa(j)] }
		for i := range list {
			for j := range list {
				if between(i, j) != between(j, i) {
					t.Fatalf("Convertible of %s and %s depends on the order", textOf(list[i]), textOf(list[j]))
				}
				for k := range list {
					if between(i, j) == impl.ConvYes && between(j, k) == impl.ConvYes && between(i, k) != impl.ConvYes {
						t.Fatalf("%s, %s and %s are not convertible in a row", textOf(list[i]), textOf(list[j]), textOf(list[k]))
					}
					if between(i, j) == impl.ConvYes && between(j, k) == impl.ConvNo {
						apart++
						if between(i, k) != impl.ConvNo {
							t.Fatalf("%s and %s are convertible, but only one is with %s", textOf(list[i]), textOf(list[j]), textOf(list[k]))
						}
					}
				}
			}
		}
		if len(list) > 3 && between(0, len(list)-1) == impl.ConvYes {
			chains++
		}
	}
	if chains < 500 || apart < 500 {
		t.Errorf("%d chains of convertible terms and %d others were compared", chains, apart)
	}
}

func TestDevelopmentPreservesConversion(t *testing.T) {
	r := rand.New(rand.NewSource(11))
	changed, larger, refused := 0, 0, 0
	for range 6000 {
		x := randomReducible(r, 4+r.Intn(5), 1+r.Intn(3))
		if !impl.TermValid(x) {
			continue
		}
		checkDevelopment(t, x)
		got, ok := impl.DevelopTerm(x)
		if !ok {
			refused++
			continue
		}
		_, first := impl.ReduceSteps(x, 200)
		_, second := impl.ReduceSteps(got, 200)
		code := impl.Convertible(x, got, 200)
		decided := first == impl.NormOk && second == impl.NormOk
		if code == impl.ConvNo || code == impl.ConvInvalid || decided && code != impl.ConvYes {
			t.Fatalf("Convertible of %s and its development %s = %d", textOf(x), textOf(got), code)
		}
		if !decided || equalTerm(x, got) {
			continue
		}
		changed++
		if impl.CountRedexes(got) > 0 {
			larger++
		}
		// Developments lead to the normal term.
		y, steps := got, 0
		for ; ok && impl.CountRedexes(y) > 0 && steps < 50; steps++ {
			y, ok = impl.DevelopTerm(y)
		}
		if want, _ := impl.Normalize(x, 200); ok && steps < 50 && !equalTerm(y, want) {
			t.Fatalf("the developments of %s lead to %s, want %s", textOf(x), textOf(y), textOf(want))
		}
	}
	if changed < 2000 || larger < 300 || refused < 20 {
		t.Errorf("%d developments were compared, %d of them with redexes, and %d were refused", changed, larger, refused)
	}
}

// A step leads to a term that is convertible in any surrounding.
func TestConversionInEveryOperand(t *testing.T) {
	r := rand.New(rand.NewSource(12))
	for range 300 {
		x := randomReducible(r, 4, 2)
		y, ok := contractAny(r, x)
		if !ok || !impl.TermValid(x) {
			continue
		}
		everyPlace(func(kind, index int) {
			a, b := around(kind, index, x), around(kind, index, y)
			checkFuels(t, a, b, 20)
			if impl.Convertible(a, b, 200) == impl.ConvNo {
				t.Errorf("%s and %s are not convertible", textOf(a), textOf(b))
			}
		})
	}
}

func checkInvalidConversion(t *testing.T, what string, x impl.Term) {
	t.Helper()
	for _, fuel := range []int{-1, 0, 1, 200, 201} {
		if steps, code := impl.ReduceSteps(x, fuel); steps != 0 || code != impl.NormInvalid {
			t.Errorf("%s: ReduceSteps = %d, %d", what, steps, code)
		}
		for _, y := range []impl.Term{x, zero(), looping(t), {}, {Kind: impl.TermSucc, Kids: []impl.Term{x}}} {
			if a, b := impl.Convertible(x, y, fuel), impl.Convertible(y, x, fuel); a != impl.ConvInvalid || b != impl.ConvInvalid {
				t.Errorf("%s: Convertible = %d, and %d in the other order", what, a, b)
			}
		}
	}
	if list := impl.TraceTerm(x); len(list) != 0 {
		t.Errorf("%s: TraceTerm returns %d terms", what, len(list))
	}
	got, ok := impl.DevelopTerm(x)
	if n := impl.CountRedexes(x); ok || !isZeroTerm(got) || n != 0 {
		t.Errorf("%s: DevelopTerm = %v, CountRedexes = %d", what, ok, n)
	}
}

func TestConversionOfInvalidTerms(t *testing.T) {
	list := invalidTerms()
	for _, c := range redexCases() {
		x := parse(t, c.text)
		for i := range x.Kids {
			list = append(list, putAt(x, []int{i}, variable(21)))
		}
		wrongN := impl.Term{Kind: x.Kind, N: 1, Kids: x.Kids}
		list = append(list, wrongN, mk(x.Kind, append(slices.Clone(x.Kids), nat())...), mk(x.Kind, x.Kids[:len(x.Kids)-1]...))
		list = append(list, succs(29, x), mk(impl.TermApp, x, sized(400)), mk(impl.TermApp, x, wrongN))
	}
	for i, x := range list {
		if impl.TermValid(x) {
			t.Fatalf("the term %d of the list is valid", i)
		}
		checkInvalidConversion(t, "the invalid term "+strconv.Itoa(i), x)
	}
}

func TestConversionSharesNoMemory(t *testing.T) {
	texts := []string{"#0", "0", "[N](#0 +#1)", "(([N]+#0 0) (^|N,+0,0| [+0]+0))", "<[N]N,+0,[N][N]+#0,++0>", "<+#0,+#1,+#2,+#3>", "([N](#0 #0) (#1 +0))", "([N]([N](#0 #0) (#0 +0)) ([N]+#0 #1))", "<[N]N,(+0 0),[N][N](#0 #0),+++0>"}
	for _, c := range redexCases() {
		texts = append(texts, c.text)
	}
	for _, text := range texts {
		x := parse(t, text)
		first, _ := impl.DevelopTerm(x)
		second, _ := impl.DevelopTerm(x)
		want := copyTerm(second)
		overwrite(first)
		if !equalTerm(second, want) || !equalTerm(x, parse(t, text)) {
			t.Errorf("DevelopTerm of %s shares memory with the argument or with another result", text)
		}
		checkSeparateParts(t, second)
		list := impl.TraceTerm(x)
		wants := make([]impl.Term, len(list))
		for i := range list {
			wants[i] = copyTerm(list[i])
		}
		again := impl.TraceTerm(x)
		for i := range list {
			overwrite(list[i])
			if !slices.EqualFunc(again, wants, equalTerm) || !slices.EqualFunc(list[i+1:], wants[i+1:], equalTerm) || !equalTerm(x, parse(t, text)) {
				t.Errorf("the term %d of TraceTerm of %s shares memory with the argument or with another term", i, text)
			}
		}
		checkSeparateParts(t, mk(impl.TermApp, again...))
		other := parse(t, "+(#0 ([N]#0 0))")
		impl.Convertible(x, other, 200)
		impl.Convertible(other, x, 200)
		impl.ReduceSteps(x, 200)
		impl.CountRedexes(x)
		if !equalTerm(x, parse(t, text)) || !equalTerm(other, parse(t, "+(#0 ([N]#0 0))")) {
			t.Errorf("%s is changed", text)
		}
	}
}

// Operands may share memory with each other, and there may be memory beyond
// their length.
func TestConversionOfSharedOperands(t *testing.T) {
	for _, c := range redexCases() {
		x, next := doubled(3, parse(t, c.text)), doubled(3, parse(t, c.next))
		got, ok := impl.DevelopTerm(x)
		checkTermResult(t, "DevelopTerm of shared operands", got, ok, next, true)
		checkSeparateParts(t, got)
		checkFuels(t, x, next, 60)
		checkSeen(t, x, outside().traceOf(x, 60))
		if !equalTerm(x, doubled(3, parse(t, c.text))) {
			t.Errorf("operands of %s are changed", c.text)
		}
	}
	store := []impl.Term{parse(t, "([N]#0 0)"), parse(t, "^|N,0,0|"), mk(77)}
	x := impl.Term{Kind: impl.TermApp, Kids: store[:2]}
	checkAll(t, x, parse(t, "(0 0)"), parse(t, "(0 N)"))
	if !equalTerm(store[0], parse(t, "([N]#0 0)")) || !equalTerm(store[1], parse(t, "^|N,0,0|")) || store[2].Kind != 77 {
		t.Error("the memory of an argument is changed")
	}
}

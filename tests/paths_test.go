package tests

import (
	"fmt"
	"math"
	"math/rand"
	"slices"
	"testing"

	"loop.example/depkernel/impl"
)

// Promise 8: a contraction at any place preserves the type and the normal term.

// The functions whose names begin with want are chapter 8, written down a
// second time: recursive, and without regard to the limits of terms. The
// places of redexes are those of redexesOf.

func wantPlaces(x impl.Term) [][]int {
	list := [][]int{{}}
	for i, kid := range x.Kids {
		for _, below := range wantPlaces(kid) {
			list = append(list, slices.Concat([]int{i}, below))
		}
	}
	return list
}

func wantPlace(x impl.Term, place []int) bool {
	return slices.ContainsFunc(wantPlaces(x), func(p []int) bool { return slices.Equal(p, place) })
}

// wantScope needs x to have the place.
func wantScope(x impl.Term, place []int) []impl.Term {
	if len(place) == 0 {
		return nil
	}
	rest := wantScope(x.Kids[place[0]], place[1:])
	if binds(x.Kind, place[0]) {
		return slices.Insert(rest, 0, x.Kids[0])
	}
	return rest
}

func saidPlace(x impl.Term, place []int) string {
	if len(place) > 40 {
		return fmt.Sprintf("%s at a place of %d numbers", textOf(x), len(place))
	}
	return fmt.Sprintf("%s at %v", textOf(x), place)
}

func checkTermAt(t *testing.T, x impl.Term, place []int, want impl.Term) {
	t.Helper()
	got, ok := impl.TermAt(x, place)
	checkTermResult(t, "TermAt of "+saidPlace(x, place), got, ok, want, true)
}

// checkPutAt needs u to be valid, and x to have the place.
func checkPutAt(t *testing.T, x impl.Term, place []int, u impl.Term) {
	t.Helper()
	want := putAt(x, place, u)
	got, ok := impl.PutAt(x, place, u)
	checkTermResult(t, "PutAt of "+textOf(u)+" into "+saidPlace(x, place), got, ok, want, impl.TermValid(want))
}

func checkContractAt(t *testing.T, x impl.Term, place []int) {
	t.Helper()
	part := partAt(x, place)
	want := putAt(x, place, wantContractum(part))
	got, ok := impl.ContractAt(x, place)
	checkTermResult(t, "ContractAt of "+saidPlace(x, place), got, ok, want, wantCode(part) != 0 && impl.TermValid(want))
}

func checkBindersAt(t *testing.T, x impl.Term, place []int, want int) {
	t.Helper()
	if n, ok := impl.BindersAt(x, place); !ok || n != want {
		t.Errorf("BindersAt of %s = %d, %v, want %d", saidPlace(x, place), n, ok, want)
	}
}

// checkContextAt wants the context to be that of ctx and scope, or none if
// that is too long.
func checkContextAt(t *testing.T, ctx []impl.Term, x impl.Term, place []int, scope []impl.Term) {
	t.Helper()
	want := slices.Concat(ctx, scope)
	got, ok := impl.ContextAt(ctx, x, place)
	if len(want) > 8 {
		want = nil
	}
	if exists := len(want) > 0 || len(ctx)+len(scope) == 0; ok != exists || !slices.EqualFunc(got, want, equalTerm) {
		t.Errorf("ContextAt of %s and %s = %s, %v, want %s", textsOf(ctx), saidPlace(x, place), textsOf(got), ok, textsOf(want))
	}
}

// checkNoPlace wants every function to refuse the place. The context must be
// valid.
func checkNoPlace(t *testing.T, what string, ctx []impl.Term, x impl.Term, place []int) {
	t.Helper()
	got, ok := impl.TermAt(x, place)
	checkRefused(t, "TermAt of "+what, got, ok)
	for _, u := range []impl.Term{nat(), variable(0), x} {
		got, ok = impl.PutAt(x, place, u)
		checkRefused(t, "PutAt of "+what, got, ok)
	}
	got, ok = impl.ContractAt(x, place)
	checkRefused(t, "ContractAt of "+what, got, ok)
	if n, ok := impl.BindersAt(x, place); ok || n != 0 {
		t.Errorf("BindersAt of %s = %d, %v", what, n, ok)
	}
	if list, ok := impl.ContextAt(ctx, x, place); ok || len(list) != 0 {
		t.Errorf("ContextAt of %s = %s, %v", what, textsOf(list), ok)
	}
}

// checkAt compares all functions for a valid term and a place, which may not
// exist. The context and the terms that are put there must be valid.
func checkAt(t *testing.T, ctx []impl.Term, x impl.Term, place []int, others ...impl.Term) {
	t.Helper()
	if !wantPlace(x, place) {
		checkNoPlace(t, saidPlace(x, place), ctx, x, place)
		return
	}
	part, scope := partAt(x, place), wantScope(x, place)
	checkTermAt(t, x, place, part)
	checkBindersAt(t, x, place, len(scope))
	checkContextAt(t, ctx, x, place, scope)
	checkContractAt(t, x, place)
	for _, u := range append(others, part) {
		checkPutAt(t, x, place, u)
	}
}

func checkPlaceList(t *testing.T, what string, got, want [][]int) {
	t.Helper()
	if !slices.EqualFunc(got, want, slices.Equal[[]int]) {
		t.Errorf("%s = %v, want %v", what, got, want)
	}
}

// checkPlaces compares both lists of places for a valid term.
func checkPlaces(t *testing.T, x impl.Term) {
	t.Helper()
	all, redexes := impl.PlacesOf(x), impl.RedexPlaces(x)
	checkPlaceList(t, "PlacesOf of "+textOf(x), all, wantPlaces(x))
	checkPlaceList(t, "RedexPlaces of "+textOf(x), redexes, redexesOf(x, false))
	if len(all) != impl.CountNodes(x) || len(redexes) != impl.CountRedexes(x) {
		t.Errorf("%s has %d places and %d places of redexes, but %d nodes and %d redexes", textOf(x), len(all), len(redexes), impl.CountNodes(x), impl.CountRedexes(x))
	}
	next, code := impl.StepTerm(x)
	if len(redexes) == 0 {
		if code != impl.StepNormal {
			t.Errorf("%s has no place of a redex, but the code of a step is %d", textOf(x), code)
		}
		return
	}
	got, ok := impl.ContractAt(x, redexes[0])
	checkTermResult(t, "ContractAt of "+saidPlace(x, redexes[0])+", the first redex,", got, ok, next, code == impl.StepTook)
}

// checkAllAt compares all functions at each place of a valid term, and at
// places next to it that do not exist.
func checkAllAt(t *testing.T, ctx []impl.Term, x impl.Term, others ...impl.Term) {
	t.Helper()
	checkPlaces(t, x)
	for _, place := range wantPlaces(x) {
		checkAt(t, ctx, x, place, others...)
		for _, index := range []int{-1, len(partAt(x, place).Kids), math.MaxInt} {
			checkNoPlace(t, saidPlace(x, append(place, index)), ctx, x, append(place, index))
		}
	}
}

func TestPlacesAndTheirParts(t *testing.T) {
	for _, c := range []struct {
		text  string
		place []int
		part  string
		scope []string
		put   string // the term with `#0` there
	}{
		{"[N]+#0", nil, "[N]+#0", nil, "#0"},
		{"[N]+#0", []int{0}, "N", nil, "[#0]+#0"},
		{"[N]+#0", []int{1}, "+#0", []string{"N"}, "[N]#0"},
		{"[N]+#0", []int{1, 0}, "#0", []string{"N"}, "[N]+#0"},
		{"(#0 #1)", []int{0}, "#0", nil, "(#0 #1)"},
		{"(#0 #1)", []int{1}, "#1", nil, "(#0 #0)"},
		// The first operand of a binder is not in its scope, but may be in that of others.
		{"[*0][#0]#1", []int{0}, "*0", nil, "[#0][#0]#1"},
		{"[*0][#0]#1", []int{1, 0}, "#0", []string{"*0"}, "[*0][#0]#1"},
		{"[*0][#0]#1", []int{1, 1}, "#1", []string{"*0", "#0"}, "[*0][#0]#0"},
		{"((N>*0)>(#0 0))", []int{0}, "(N>*0)", nil, "(#0>(#0 0))"},
		{"((N>*0)>(#0 0))", []int{0, 0}, "N", nil, "((#0>*0)>(#0 0))"},
		{"((N>*0)>(#0 0))", []int{0, 1}, "*0", []string{"N"}, "((N>#0)>(#0 0))"},
		{"((N>*0)>(#0 0))", []int{1, 1}, "0", []string{"(N>*0)"}, "((N>*0)>(#0 #0))"},
		{"[[N]#3]#4", []int{0, 1}, "#3", []string{"N"}, "[[N]#0]#4"},
		{"[([*1]#0 N)](#0*#1)", []int{0, 0, 1}, "#0", []string{"*1"}, "[([*1]#0 N)](#0*#1)"},
		{"[([*1]#0 N)](#0*#1)", []int{1, 1}, "#1", []string{"([*1]#0 N)", "#0"}, "[([*1]#0 N)](#0*#0)"},
		// Binders of each kind, and nodes between them that are none.
		{"(*0>(#0*[#1]{#2,#0,#1}))", []int{1, 1, 1, 2}, "#1", []string{"*0", "#0", "#1"}, "(*0>(#0*[#1]{#2,#0,#0}))"},
		{"(*0>(#0*[#1]{#2,#0,#1}))", []int{1, 1, 0}, "#1", []string{"*0", "#0"}, "(*0>(#0*[#0]{#2,#0,#1}))"},
		{"<[N]N,#1,[N][N]+#0,#0>", []int{2, 1, 1, 0}, "#0", []string{"N", "N"}, "<[N]N,#1,[N][N]+#0,#0>"},
		{"<[N]N,#1,[N][N]+#0,#0>", []int{0, 1}, "N", []string{"N"}, "<[N]#0,#1,[N][N]+#0,#0>"},
		{"<[N]N,#1,[N][N]+#0,#0>", []int{1}, "#1", nil, "<[N]N,#0,[N][N]+#0,#0>"},
		{"@<[N]{N,#0,#3},#0,!#2>", []int{0, 1, 2}, "#3", []string{"N"}, "@<[N]{N,#0,#0},#0,!#2>"},
		{"_^|((N*N)*N),|(N*N),0,+0|,#5|", []int{0, 0, 0, 1}, "N", []string{"(N*N)"}, "_^|((N*N)*#0),|(N*N),0,+0|,#5|"},
		{"_^|((N*N)*N),|(N*N),0,+0|,#5|", []int{0, 0, 1, 2, 0}, "0", nil, "_^|((N*N)*N),|(N*N),0,+#0|,#5|"},
		// Inside of a redex, at it and beside it.
		{"([N]([*0]#1 #0) +#2)", []int{0, 1, 0, 1}, "#1", []string{"N", "*0"}, "([N]([*0]#0 #0) +#2)"},
		{"([N]([*0]#1 #0) +#2)", []int{0, 1}, "([*0]#1 #0)", []string{"N"}, "([N]#0 +#2)"},
		{"([N]([*0]#1 #0) +#2)", []int{1, 0}, "#2", nil, "([N]([*0]#1 #0) +#0)"},
	} {
		x, ctx := parse(t, c.text), parseAll(t, []string{"*1", "0"})
		scope := parseAll(t, c.scope)
		checkTermAt(t, x, c.place, parse(t, c.part))
		checkBindersAt(t, x, c.place, len(scope))
		checkContextAt(t, nil, x, c.place, scope)
		checkContextAt(t, ctx, x, c.place, scope)
		got, ok := impl.PutAt(x, c.place, variable(0))
		checkText(t, "PutAt of #0 into "+saidPlace(x, c.place), got, ok, c.put)
		checkAllAt(t, ctx, x, variable(0), parse(t, "[N](#0 #4)"))
	}
}

func TestEmptyPlace(t *testing.T) {
	texts := []string{"#0", "#20", "*3", "N", "0", "(#0 [N]#0)", "[N](#0 #1)", "(N>(N*#0))"}
	for _, c := range redexCases() {
		texts = append(texts, c.text)
	}
	for _, text := range texts {
		x, u := parse(t, text), parse(t, "[N](#0 #20)")
		for _, place := range [][]int{nil, {}, make([]int, 0, 3)} {
			checkTermAt(t, x, place, x)
			checkBindersAt(t, x, place, 0)
			checkContextAt(t, nil, x, place, nil)
			checkContextAt(t, []impl.Term{u, x}, x, place, nil)
			got, ok := impl.PutAt(x, place, u)
			checkTermResult(t, "PutAt into the root of "+text, got, ok, u, true)
			got, ok = impl.ContractAt(x, place)
			want, exists := impl.ContractTerm(x)
			checkTermResult(t, "ContractAt of the root of "+text, got, ok, want, exists)
			checkAt(t, nil, x, place, u)
		}
		list := impl.PlacesOf(x)
		if len(list) == 0 || len(list[0]) != 0 {
			t.Errorf("PlacesOf of %s = %v", text, list)
		}
	}
}

// An operand of each kind is found where it is, with all its parts.
func TestPlaceOfEveryOperand(t *testing.T) {
	part := parse(t, "[#3](#0 ([N]#2 #1))")
	everyPlace(func(kind, index int) {
		x := around(kind, index, part)
		scope := []impl.Term{nat()}
		if !binds(kind, index) {
			scope = nil
		}
		checkTermAt(t, x, []int{index}, part)
		checkTermAt(t, x, []int{index, 1, 1, 1}, variable(1))
		checkBindersAt(t, x, []int{index}, len(scope))
		checkContextAt(t, nil, x, []int{index}, scope)
		checkContextAt(t, nil, x, []int{index, 0}, scope)
		checkContextAt(t, nil, x, []int{index, 1}, slices.Concat(scope, []impl.Term{variable(3)}))
		got, ok := impl.PutAt(x, []int{index}, part.Kids[0])
		checkTermResult(t, "PutAt into "+saidPlace(x, []int{index}), got, ok, around(kind, index, part.Kids[0]), true)
		got, ok = impl.ContractAt(x, []int{index, 1, 1})
		checkTermResult(t, "ContractAt of "+saidPlace(x, []int{index, 1, 1}), got, ok, around(kind, index, parse(t, "[#3](#0 #1)")), true)
		checkAllAt(t, []impl.Term{sort(2)}, x, variable(0), part)
		everyPlace(func(outer, first int) {
			y := around(outer, first, x)
			checkTermAt(t, y, []int{first, index}, part)
			checkAt(t, []impl.Term{part}, y, []int{first, index, 1}, part, zero())
			for i := range operandsOf(outer) {
				checkAt(t, []impl.Term{part}, y, []int{i}, x)
			}
		})
	})
}

func TestPlacesThatDoNotExist(t *testing.T) {
	indices := []int{math.MinInt, -2, -1, 1, 2, 3, 4, 5, 16, math.MaxInt32, math.MaxInt32 + 1, math.MaxInt}
	for kind := impl.TermVar; kind <= impl.TermSnd; kind++ {
		x := mk(kind)
		for range operandsOf(kind) {
			x.Kids = append(x.Kids, parse(t, "(#0 #1)"))
		}
		for _, index := range append(indices, 0, operandsOf(kind), operandsOf(kind)-1) {
			exists := index >= 0 && index < operandsOf(kind)
			if wantPlace(x, []int{index}) != exists {
				t.Fatalf("the test is wrong: %d for the kind %d", index, kind)
			}
			checkAt(t, nil, x, []int{index}, nat())
			for _, below := range append(indices, 0) {
				checkAt(t, nil, x, []int{index, below}, nat())
				checkAt(t, nil, x, []int{below, index}, nat())
				checkNoPlace(t, "an operand of a leaf", nil, x, []int{index, 0, below})
			}
		}
	}
	// Below a leaf, and through a step that does not exist.
	x := parse(t, "[N]([*0]#1 {N,0,+#0})")
	for _, place := range [][]int{{2}, {-1}, {0, 0}, {1, 2}, {1, 0, 1, 0}, {1, 1, 3}, {1, 1, 2, 1}, {1, 1, 2, 0, 0}, {1, 1, 2, 0, 0, 0}, {-1, 1}, {2, 0}, {1, -1, 1}, {1, 1, -3, 0}, {math.MaxInt}, {1, math.MaxInt, 0}, {1, 1, math.MinInt}} {
		checkNoPlace(t, saidPlace(x, place), []impl.Term{nat()}, x, place)
	}
	for _, n := range []int{29, 30, 31, 400, 1000000} {
		deep := succs(29, variable(0))
		checkNoPlace(t, "a long place", nil, x, slices.Repeat([]int{1}, n))
		if n <= 29 {
			checkAt(t, nil, deep, make([]int, n), zero())
		} else {
			checkNoPlace(t, "a place deeper than any term", nil, deep, make([]int, n))
		}
	}
}

func TestOrderOfPlaces(t *testing.T) {
	for _, c := range []struct {
		text    string
		places  [][]int
		redexes [][]int
	}{
		{"#0", [][]int{{}}, nil},
		{"+0", [][]int{{}, {0}}, nil},
		{"[N]+#0", [][]int{{}, {0}, {1}, {1, 0}}, nil},
		{"((#0 #1) (#2 #3))", [][]int{{}, {0}, {0, 0}, {0, 1}, {1}, {1, 0}, {1, 1}}, nil},
		{"<N,+0,#0,*0>", [][]int{{}, {0}, {1}, {1, 0}, {2}, {3}}, nil},
		{"{(N>N),0,^#0}", [][]int{{}, {0}, {0, 0}, {0, 1}, {1}, {2}, {2, 0}}, nil},
		{"([N]#0 0)", [][]int{{}, {0}, {0, 0}, {0, 1}, {1}}, [][]int{{}}},
		{"([N]([N]#0 #0) ^|N,0,0|)", [][]int{{}, {0}, {0, 0}, {0, 1}, {0, 1, 0}, {0, 1, 0, 0}, {0, 1, 0, 1}, {0, 1, 1}, {1}, {1, 0}, {1, 0, 0}, {1, 0, 1}, {1, 0, 2}}, [][]int{{}, {0, 1}, {1}}},
		{"(^|N,0,0| _|N,0,0|)", [][]int{{}, {0}, {0, 0}, {0, 0, 0}, {0, 0, 1}, {0, 0, 2}, {1}, {1, 0}, {1, 0, 0}, {1, 0, 1}, {1, 0, 2}}, [][]int{{0}, {1}}},
		{"[([*0]#0 N)]<N,#0,([N]#0 0),+0>", [][]int{{}, {0}, {0, 0}, {0, 0, 0}, {0, 0, 1}, {0, 1}, {1}, {1, 0}, {1, 1}, {1, 2}, {1, 2, 0}, {1, 2, 0, 0}, {1, 2, 0, 1}, {1, 2, 1}, {1, 3}, {1, 3, 0}}, [][]int{{0}, {1}, {1, 2}}},
		{"@<#0,!#1,@<N,!0,0>>", [][]int{{}, {0}, {1}, {1, 0}, {2}, {2, 0}, {2, 1}, {2, 1, 0}, {2, 2}}, [][]int{{}, {2}}},
	} {
		x := parse(t, c.text)
		checkPlaceList(t, "PlacesOf of "+c.text, impl.PlacesOf(x), c.places)
		checkPlaceList(t, "RedexPlaces of "+c.text, impl.RedexPlaces(x), c.redexes)
		checkAllAt(t, nil, x)
	}
	for _, x := range []impl.Term{sized(400), sized(399), succs(29, zero()), doubled(7, nat()), nested(impl.TermLam, 1, 29, nat()), nested(impl.TermPi, 0, 29, nat())} {
		checkPlaces(t, x)
	}
	for _, c := range redexCases() {
		everyPlace(func(kind, index int) {
			x := around(kind, index, parse(t, c.text))
			if list := impl.RedexPlaces(x); len(list) == 0 || !slices.ContainsFunc(list, func(p []int) bool { return slices.Equal(p, []int{index}) }) {
				t.Errorf("RedexPlaces of %s = %v", textOf(x), list)
			}
			checkPlaces(t, x)
		})
	}
}

// A part that is put at its own place changes nothing, and a part that is put
// below binders keeps its numbers, whatever they refer to there.
func TestPutAt(t *testing.T) {
	x := parse(t, "[N]((#0 #3)>[(#0 #4)](#0 (#2 #5)))")
	for _, place := range wantPlaces(x) {
		got, ok := impl.PutAt(x, place, partAt(x, place))
		checkTermResult(t, "PutAt of the part of "+saidPlace(x, place), got, ok, x, true)
	}
	for _, c := range []struct {
		text  string
		place []int
		put   string
		want  string
	}{
		{"[N]0", []int{1}, "#0", "[N]#0"}, {"[N]0", []int{1}, "#1", "[N]#1"}, {"[N]0", []int{1}, "#20", "[N]#20"}, {"[N]0", []int{0}, "#0", "[#0]0"},
		{"[N][N][N]0", []int{1, 1, 1}, "(#0 (#1 (#2 #3)))", "[N][N][N](#0 (#1 (#2 #3)))"}, {"[N][N][N]0", []int{1, 1, 0}, "(#0 (#1 (#2 #3)))", "[N][N][(#0 (#1 (#2 #3)))]0"},
		{"(N>(N*0))", []int{1, 1}, "[#0](#0 #1)", "(N>(N*[#0](#0 #1)))"}, {"(N>(N*0))", []int{1}, "[#0](#0 #1)", "(N>[#0](#0 #1))"},
		// The variables beside and above the place are not changed, either.
		{"(#0 [N](#0 #1))", []int{0}, "[N]N", "([N]N [N](#0 #1))"}, {"[#2](#0 (#3 0))", []int{1, 1, 1}, "#3", "[#2](#0 (#3 #3))"}, {"[#2](#0 (#3 0))", []int{1, 1}, "0", "[#2](#0 0)"}, {"[#2](#0 (#3 0))", []int{1}, "#7", "[#2]#7"},
		// A redex may arise or vanish: nothing is reduced.
		{"(#0 0)", []int{0}, "[N]#0", "([N]#0 0)"}, {"([N]#0 0)", []int{0}, "#0", "(#0 0)"}, {"([N]#0 0)", []int{1}, "([N]#0 0)", "([N]#0 ([N]#0 0))"},
		// No types are checked.
		{"+0", []int{0}, "N", "+N"}, {"[N]#0", []int{0}, "!0", "[!0]#0"},
	} {
		y := parse(t, c.text)
		got, ok := impl.PutAt(y, c.place, parse(t, c.put))
		checkText(t, "PutAt of "+c.put+" into "+saidPlace(y, c.place), got, ok, c.want)
		checkAllAt(t, nil, y, parse(t, c.put))
	}
}

// Each kind of node around a part has at most as many nodes and levels as a
// term may have.
func TestLimitsOfPutAt(t *testing.T) {
	everyPlace(func(kind, index int) {
		for levels := range 4 {
			x, place := nat(), []int{}
			for range levels {
				x, place = around(kind, index, x), append(place, index)
			}
			nodes := 400 - levels*operandsOf(kind)
			for extra := -1; extra <= 2; extra++ {
				for _, u := range []impl.Term{sized(min(400, nodes+extra)), succs(min(29, 29-levels+extra), variable(20))} {
					checkPutAt(t, x, place, u)
				}
			}
			fits, deep := sized(nodes), succs(29-levels, variable(20))
			for _, u := range []impl.Term{fits, deep} {
				got, ok := impl.PutAt(x, place, u)
				checkTermResult(t, "PutAt of a large part", got, ok, putAt(x, place, u), true)
				// A large part may be put where another one was.
				checkPutAt(t, got, place, nat())
				checkPutAt(t, got, place, u)
				checkAt(t, nil, got, append(place, make([]int, 3)...), nat(), parse(t, "+0"), parse(t, "++0"))
			}
			for _, u := range []impl.Term{sized(nodes + 1), succs(30-levels, variable(20))} {
				got, ok := impl.PutAt(x, place, u)
				checkRefused(t, "PutAt of a part that is too large", got, ok)
			}
		}
	})
	// All leaves of a term with 400 nodes, and the last one of a deep term.
	full, tall := sized(400), succs(29, zero())
	for _, place := range wantPlaces(full) {
		if part := partAt(full, place); len(part.Kids) == 0 {
			checkPutAt(t, full, place, zero())
			got, ok := impl.PutAt(full, place, parse(t, "+0"))
			checkRefused(t, "PutAt of a node that is too much", got, ok)
		}
	}
	for _, place := range wantPlaces(tall) {
		got, ok := impl.PutAt(tall, place, succs(29-len(place), variable(1)))
		checkTermResult(t, "PutAt of a deep part", got, ok, succs(29, variable(1)), true)
		got, ok = impl.PutAt(tall, place, succs(30-len(place), variable(1)))
		checkRefused(t, "PutAt of a part that is too deep", got, ok)
	}
}

func TestContractAt(t *testing.T) {
	for _, c := range []struct {
		text  string
		place []int
		want  string // empty if there is no result
	}{
		{"([N]+#0 ++0)", nil, "+++0"}, {"[N]([N]+#0 (#0 [*0]#1))", []int{1}, "[N]+(#0 [*0]#1)"}, {"(#0 ([N](#0 #3) #1))", []int{1}, "(#0 (#1 #2))"},
		// Redexes inside of each other, and beside each other.
		{"([N]+#0 ([N]++#0 0))", nil, "+([N]++#0 0)"}, {"([N]+#0 ([N]++#0 0))", []int{1}, "([N]+#0 ++0)"}, {"([N]([N](#1 #0) #0) #4)", []int{0, 1}, "([N](#0 #0) #4)"}, {"([N]([N](#1 #0) #0) #4)", nil, "([N](#5 #0) #4)"},
		{"(^|N,0,+0| _|N,0,+0|)", []int{0}, "(0 _|N,0,+0|)"}, {"(^|N,0,+0| _|N,0,+0|)", []int{1}, "(^|N,0,+0| +0)"}, {"{([*0]#0 N),([N]#0 0),([N]#0 +0)}", []int{2}, "{([*0]#0 N),([N]#0 0),+0}"},
		{"<([N]#0 #1),([N]#0 #2),([N]#0 #3),+([N]#0 0)>", nil, "((([N]#0 #3) ([N]#0 0)) <([N]#0 #1),([N]#0 #2),([N]#0 #3),([N]#0 0)>)"}, {"<([N]#0 #1),([N]#0 #2),([N]#0 #3),+([N]#0 0)>", []int{3, 0}, "<([N]#0 #1),([N]#0 #2),([N]#0 #3),+0>"},
		// Below binders, and in their types.
		{"[N][*0](([*1]#0 #1)>#0)", []int{1, 1, 0}, "[N][*0](#1>#0)"}, {"[([*0]#0 N)]([N]#1 #0)", []int{0}, "[N]([N]#1 #0)"}, {"[([*0]#0 N)]([N]#1 #0)", []int{1}, "[([*0]#0 N)]#0"}, {"[N]@<[N]{N,#0,#2},!#0,!#0>", []int{1}, "[N]!#0"},
		// A redex may arise above and below the place.
		{"(([N][N]#1 0) +0)", []int{0}, "([N]0 +0)"}, {"<N,0,#0,([N]#0 +0)>", []int{3}, "<N,0,#0,+0>"}, {"([N](#0 0) [N]#0)", nil, "([N]#0 0)"},
		// Places without a redex: inside, above and beside one.
		{"([N]+#0 ++0)", []int{0}, ""}, {"([N]+#0 ++0)", []int{1}, ""}, {"([N]+#0 ++0)", []int{0, 1}, ""}, {"[N]([N]#0 #0)", nil, ""}, {"[N]([N]#0 #0)", []int{0}, ""}, {"(#0 ([N]#0 0))", nil, ""}, {"(#0 ([N]#0 0))", []int{0}, ""},
		{"((^|N,0,0| 0) 0)", nil, ""}, {"((^|N,0,0| 0) 0)", []int{0}, ""}, {"((^|N,0,0| 0) 0)", []int{0, 0}, "((0 0) 0)"}, {"<N,0,#0,^|N,0,0|>", nil, ""}, {"@<N,([N]!#0 0),0>", nil, ""}, {"@<!0,#0,!0>", nil, ""}, {"^^|N,0,0|", nil, ""},
		{"#0", nil, ""}, {"N", nil, ""}, {"+0", []int{0}, ""}, {"(#0 [N]#0)", nil, ""}, {"<0,0,0,#0>", nil, ""}, {"!([N]#0 0)", nil, ""},
	} {
		x := parse(t, c.text)
		got, ok := impl.ContractAt(x, c.place)
		checkText(t, "ContractAt of "+saidPlace(x, c.place), got, ok, c.want)
		checkAllAt(t, nil, x)
	}
	for _, c := range redexCases() {
		everyPlace(func(kind, index int) {
			x := around(kind, index, parse(t, c.text))
			got, ok := impl.ContractAt(x, []int{index})
			checkTermResult(t, "ContractAt of "+saidPlace(x, []int{index}), got, ok, around(kind, index, parse(t, c.next)), true)
			checkAllAt(t, nil, x)
			everyPlace(func(outer, first int) {
				checkAt(t, nil, around(outer, first, x), []int{first, index})
			})
		})
	}
}

func TestContractionsThatAreNotValid(t *testing.T) {
	for what, c := range bounds(t) {
		got, ok := impl.ContractAt(c.redex, nil)
		checkTermResult(t, what, got, ok, wantContractum(c.redex), c.fits)
		checkContractAt(t, c.redex, []int{})
		checkPlaces(t, c.redex)
		everyPlace(func(kind, index int) {
			if x := around(kind, index, c.redex); impl.TermValid(x) {
				checkContractAt(t, x, []int{index})
			}
		})
	}
	// The contractum is valid, but the result may not be.
	wide := wideTo(t, 99) // 200 nodes after the step
	tall := mk(impl.TermApp, parse(t, "[N]++#0"), succs(4, zero()))
	fit, refused := 0, 0
	everyPlace(func(kind, index int) {
		// Nodes beside the place.
		for extra := -1; extra <= 1; extra++ {
			x := mk(impl.TermApp, sized(400-2-200-operandsOf(kind)+1+extra), around(kind, index, wide))
			want := putAt(x, []int{1, index}, wantContractum(wide))
			if !impl.TermValid(x) || impl.TermValid(want) != (extra <= 0) {
				t.Fatalf("the test is wrong: a contraction in the kind %d", kind)
			}
			got, ok := impl.ContractAt(x, []int{1, index})
			checkTermResult(t, "a contraction in a large term", got, ok, want, extra <= 0)
		}
		// Levels above the place.
		x, place := tall, []int{}
		for {
			x, place = around(kind, index, x), append(place, index)
			if !impl.TermValid(x) {
				break
			}
			checkContractAt(t, x, place)
			if _, ok := impl.ContractAt(x, place); ok {
				fit++
			} else {
				refused++
			}
		}
	})
	if fit < 400 || refused < 20 {
		t.Errorf("%d contractions fit, and %d do not", fit, refused)
	}
	// A redex that is not the first one has room although another one has not.
	x := mk(impl.TermPair, sized(100), wideTo(t, 160), parse(t, "^|N,0,0|"))
	got, ok := impl.ContractAt(x, []int{1})
	checkRefused(t, "the contraction of the first redex", got, ok)
	got, ok = impl.ContractAt(x, []int{2})
	checkTermResult(t, "the contraction of the second redex", got, ok, mk(impl.TermPair, sized(100), wideTo(t, 160), zero()), true)
}

func TestLengthOfContextsAtPlaces(t *testing.T) {
	elements := parseAll(t, []string{"*0", "#0", "0", "(#7 N)", "[N]#1", "!!0", "*3", "#20", "N"})
	for _, kind := range []int{impl.TermPi, impl.TermLam, impl.TermSigma} {
		for binders := range 12 {
			x, scope := variable(0), []impl.Term{}
			for i := range binders {
				x = mk(kind, parse(t, fmt.Sprint("(#", i, " N)")), x)
				scope = append([]impl.Term{x.Kids[0]}, scope...)
			}
			for n := range 9 {
				ctx := elements[:n]
				checkContextAt(t, ctx, x, nil, nil)
				for depth := range binders + 1 {
					place := slices.Repeat([]int{1}, depth)
					checkContextAt(t, ctx, x, place, scope[:depth])
					list, ok := impl.ContextAt(ctx, x, place)
					if ok != (n+depth <= 8) || ok && len(list) != n+depth || !ok && len(list) != 0 {
						t.Errorf("ContextAt of %d elements and %d binders = %d elements, %v", n, depth, len(list), ok)
					}
					if depth < binders { // in the type of the next binder
						checkContextAt(t, ctx, x, append(place, 0), scope[:depth])
						checkContextAt(t, ctx, x, append(place, 0, 1), scope[:depth])
					}
					checkBindersAt(t, x, place, depth)
				}
			}
		}
		// Without binders on the way, 8 elements are enough, however deep the place is.
		x := nested(kind, 0, 29, zero())
		for n := range 9 {
			checkContextAt(t, elements[:n], x, make([]int, 29), nil)
			checkContextAt(t, elements[:n], x, append(make([]int, 7), 1), []impl.Term{x.Kids[0].Kids[0].Kids[0].Kids[0].Kids[0].Kids[0].Kids[0].Kids[0]})
		}
		checkBindersAt(t, nested(kind, 1, 29, zero()), slices.Repeat([]int{1}, 29), 29)
	}
	for _, n := range []int{9, 10, 20, 1000000} {
		for _, ctx := range [][]impl.Term{slices.Repeat([]impl.Term{nat()}, n), make([]impl.Term, n)} {
			for _, place := range [][]int{nil, {0}, {1}} {
				if list, ok := impl.ContextAt(ctx, parse(t, "[N]#0"), place); ok || len(list) != 0 {
					t.Errorf("ContextAt of %d elements = %s, %v", n, textsOf(list), ok)
				}
			}
		}
	}
}

func TestContextsWithInvalidElements(t *testing.T) {
	x := parse(t, "[N]([N]#0 (#0 0))")
	for i, e := range invalidTerms() {
		for n := range 8 {
			for position := range n + 1 {
				ctx := slices.Insert(slices.Repeat([]impl.Term{nat()}, n), position, e)
				for _, place := range [][]int{nil, {0}, {1}, {1, 0, 1}, {2}, {-1}} {
					if list, ok := impl.ContextAt(ctx, x, place); ok || len(list) != 0 {
						t.Errorf("ContextAt with the invalid term %d = %s, %v", i, textsOf(list), ok)
					}
				}
			}
		}
	}
}

// An invalid term has no places, also where it has a valid part.
func TestPlacesOfInvalidTerms(t *testing.T) {
	list := append(invalidTerms(), mk(impl.TermPi), mk(impl.TermApp, nat()), mk(impl.TermElim, nat(), nat(), nat()), mk(impl.TermVar, nat()))
	for _, c := range redexCases() {
		x := parse(t, c.text)
		for i := range x.Kids {
			list = append(list, putAt(x, []int{i}, variable(21)))
		}
		list = append(list, impl.Term{Kind: x.Kind, N: 1, Kids: x.Kids}, mk(x.Kind, append(slices.Clone(x.Kids), nat())...), mk(x.Kind, x.Kids[:len(x.Kids)-1]...), succs(29, x))
	}
	for _, e := range slices.Clone(list) {
		list = append(list, mk(impl.TermApp, parse(t, "([N]#0 0)"), e), mk(impl.TermApp, e, parse(t, "([N]#0 0)")), mk(impl.TermLam, nat(), mk(impl.TermLam, e, nat())))
	}
	for i, x := range list {
		what := fmt.Sprint("the invalid term ", i)
		if impl.TermValid(x) {
			t.Fatalf("%s is valid", what)
		}
		for _, place := range [][]int{nil, {}, {0}, {1}, {0, 0}, {1, 0}, {1, 1}, {2}, {-1}, {0, 0, 0, 0}, make([]int, 100)} {
			checkNoPlace(t, what, []impl.Term{nat()}, x, place)
			for _, y := range []impl.Term{nat(), parse(t, "([N]#0 0)"), parse(t, "{N,(0 0),0}")} {
				got, ok := impl.PutAt(y, place, x)
				checkRefused(t, "PutAt of "+what, got, ok)
			}
		}
		if a, b := impl.PlacesOf(x), impl.RedexPlaces(x); len(a)+len(b) != 0 {
			t.Errorf("PlacesOf and RedexPlaces of %s = %v, %v", what, a, b)
		}
		// The invalid part would vanish.
		for _, y := range []impl.Term{mk(impl.TermApp, nat(), x), mk(impl.TermFst, mk(impl.TermPair, x, nat(), nat())), mk(impl.TermApp, parse(t, "[N]0"), x)} {
			place := []int{len(y.Kids) - 1}
			got, ok := impl.PutAt(y, place, nat())
			checkRefused(t, "PutAt instead of "+what, got, ok)
			got, ok = impl.ContractAt(y, nil)
			checkRefused(t, "ContractAt without "+what, got, ok)
			got, ok = impl.PutAt(y, nil, nat())
			checkRefused(t, "PutAt instead of a term with "+what, got, ok)
		}
	}
}

func TestPlacesOfRandomTerms(t *testing.T) {
	r := rand.New(rand.NewSource(8))
	counts := map[string]int{}
	for round := range 1500 {
		x := randomReducible(r, 3+r.Intn(4), 1+r.Intn(4))
		if nodes := impl.CountNodes(x); nodes > 0 && nodes < 390 && round%5 == 0 { // no room for much more
			x = mk(impl.TermApp, x, sized(399-nodes-r.Intn(3)))
		}
		if !impl.TermValid(x) {
			continue
		}
		checkPlaces(t, x)
		var ctx []impl.Term
		for range r.Intn(9) {
			ctx = append(ctx, randomOpen(r, 1, 20))
		}
		places := wantPlaces(x)
		for range 6 {
			place := places[r.Intn(len(places))]
			checkAt(t, ctx, x, place, randomOpen(r, 1+r.Intn(3), 20))
			counts["exist"]++
			if other := slices.Clone(place); len(other) > 0 {
				other[r.Intn(len(other))] = r.Intn(6) - 1
				checkAt(t, ctx, x, other, zero())
				if !wantPlace(x, other) {
					counts["do not exist"]++
				}
			}
			if _, ok := impl.ContextAt(ctx, x, place); !ok {
				counts["have no context"]++
			}
		}
		for _, place := range redexesOf(x, false) {
			checkContractAt(t, x, place)
			if _, ok := impl.ContractAt(x, place); !ok {
				counts["become too large"]++
			}
		}
		if t.Failed() {
			t.Fatalf("the first term with a failure is %s", textOf(x))
		}
	}
	if counts["exist"] < 6000 || counts["do not exist"] < 2000 || counts["have no context"] < 300 || counts["become too large"] < 20 {
		t.Errorf("some places were too seldom: %v", counts)
	}
}

// What is put at a place is found there, and what is put at two places, of
// which none is below the other one, does not depend on the order.
func TestPutAtAndTermAt(t *testing.T) {
	r := rand.New(rand.NewSource(9))
	pairs := 0
	for range 1500 {
		x := randomOpen(r, 2+r.Intn(4), 20)
		if !impl.TermValid(x) {
			continue
		}
		places := impl.PlacesOf(x)
		p, q := places[r.Intn(len(places))], places[r.Intn(len(places))]
		u, v := randomOpen(r, 2, 20), randomOpen(r, 2, 20)
		y, ok := impl.PutAt(x, p, u)
		z, fine := impl.PutAt(x, q, v)
		if !ok || !fine {
			continue
		}
		checkTermAt(t, y, p, u)
		old, _ := impl.TermAt(x, p)
		back, ok := impl.PutAt(y, p, old)
		checkTermResult(t, "PutAt of the old part of "+saidPlace(x, p), back, ok, x, true)
		n, _ := impl.BindersAt(x, p)
		checkBindersAt(t, y, p, n)
		short := min(len(p), len(q))
		if slices.Equal(p[:short], q[:short]) {
			continue
		}
		pairs++
		first, a := impl.PutAt(y, q, v)
		second, b := impl.PutAt(z, p, u)
		if a != b || !equalTerm(first, second) {
			t.Errorf("the order of two parts matters for %s, %v and %v", textOf(x), p, q)
		}
	}
	if pairs < 200 {
		t.Errorf("only %d pairs of places were compared", pairs)
	}
}

// checkContraction contracts one redex of a term with a type, and wants the
// type and the normal term to be the same, also those of the part itself.
func (c *tally) checkContraction(t *testing.T, j judgement, place []int) {
	t.Helper()
	y, ok := impl.ContractAt(j.term, place)
	if !ok {
		c.open++
		return
	}
	c.checkKeeps(t, "a contraction of "+saidPlace(j.term, place), j.ctx, y, j.is)
	checkSameNormal(t, j.term, y)
	ctx, ok := impl.ContextAt(j.ctx, j.term, place)
	if !ok {
		return
	}
	redex, _ := impl.TermAt(j.term, place)
	part, _ := impl.TermAt(y, place)
	is, code := impl.InferType(ctx, redex)
	if code != impl.TypeOk {
		t.Errorf("%s has no type in the context %s of its place: %d", textOf(redex), textsOf(ctx), code)
		return
	}
	c.checkKeeps(t, "the contractum of "+textOf(redex), ctx, part, is)
	checkSameNormal(t, redex, part)
}

// checkSameNormal compares the normal terms, if both are found.
func checkSameNormal(t *testing.T, x, y impl.Term) bool {
	t.Helper()
	a, first := impl.Normalize(x, 200)
	b, second := impl.Normalize(y, 200)
	decided := first == impl.NormOk && second == impl.NormOk
	if decided && !equalTerm(a, b) {
		t.Errorf("%s has the normal term %s, and after a contraction %s", textOf(x), textOf(a), textOf(b))
	}
	if code := impl.Convertible(x, y, 200); decided && code != impl.ConvYes || code == impl.ConvNo {
		t.Errorf("Convertible of %s and %s, after a contraction, = %d", textOf(x), textOf(y), code)
	}
	return decided
}

// Redexes of every code, in the type of a binder, below binders, in other
// redexes and in the types of other parts.
func TestContractionsPreserveTypesAndNormalTerms(t *testing.T) {
	for _, c := range []struct {
		ctx     []string
		text    string
		redexes int
	}{
		{nil, "([N]+#0 ([N]++#0 0))", 2}, {nil, "[([*0]#0 N)]+([N]#0 #0)", 2}, {[]string{"N"}, "[{N,([N]#0 #0),#0}]([N]!#0 #1)", 2},
		{nil, "<[N]N,([N]#0 0),[N][N]([N]+#0 #0),++0>", 3}, {[]string{"N"}, "<([*1][N]#1 *0),N,[N][*0](([*0]#0 N)>#1),([N]#0 0)>", 3}, {nil, "<[N]{N,#0,#0},!0,[N][{N,#0,#0}]!+([N]#0 #1),++0>", 2},
		{[]string{"N"}, "@<[N]{N,([N]#0 #0),#1},!([N]#0 #0),([N]!#0 #0)>", 4}, {[]string{"(N>*0)", "(#0 ([N]#0 0))"}, "@<#1,!([N]#0 0),#0>", 2},
		{nil, "^|(N*{N,#0,([N]#0 0)}),0,!([N]#0 0)|", 3}, {nil, "_|(N*{N,#0,([N]#0 0)}),([N]0 0),!0|", 3}, {nil, "_^|((N*N)*N),|(([*0]#0 N)*N),0,([N]#0 +0)|,0|", 3},
		{[]string{"*0", "#0"}, "(([*0][#0]([#1]#0 #0) #1) ([#1]#0 #0))", 3}, {nil, "(([*0]#0 N)>{N,([N]#0 #0),^|(N*N),0,0|})", 3}, {nil, "(N*([N]{N,#0,0} #0))", 1}, {nil, "(([*1]#0 *0)*([*0]#0 #0))", 2},
		{nil, "!([N]#0 0)", 1}, {nil, "{([*0]#0 N),([N]#0 0),+([N]#0 0)}", 3}, {nil, "|([*0]#0 (N*([*0]#0 N))),([N]#0 0),0|", 3}, {[]string{"N"}, "[(N>N)](#0 ([N](#1 #0) #1))", 1},
	} {
		ctx, x := parseAll(t, c.ctx), parse(t, c.text)
		is, code := impl.InferType(ctx, x)
		redexes := impl.RedexPlaces(x)
		if code != impl.TypeOk || len(redexes) != c.redexes {
			t.Errorf("the test is wrong: %s has the code %d and %d redexes", c.text, code, len(redexes))
			continue
		}
		var seen tally
		for _, place := range redexes {
			seen.checkContraction(t, judgement{ctx, x, is}, place)
			if y, _ := impl.ContractAt(x, place); !checkSameNormal(t, x, y) {
				t.Errorf("the normal term of %s is not found", c.text)
			}
		}
		if seen.open > 0 || seen.decided != 2*c.redexes {
			t.Errorf("%s: %d terms are decided, and %d are not", c.text, seen.decided, seen.open)
		}
	}
}

func TestRandomContractionsPreserveTypesAndNormalTerms(t *testing.T) {
	m := maker{rand.New(rand.NewSource(11))}
	var c tally
	later, below := 0, 0
	for round := range 2500 {
		j := m.judgement(round%4, 2+round%2)
		for i, place := range impl.RedexPlaces(j.term) {
			c.checkContraction(t, j, place)
			if i > 0 {
				later++
			}
			if n, _ := impl.BindersAt(j.term, place); n > 0 {
				below++
			}
		}
		// A contraction in the type, and in the types of the context.
		for _, place := range impl.RedexPlaces(j.is) {
			if y, ok := impl.ContractAt(j.is, place); ok {
				c.checkKeeps(t, "a contraction of the type", j.ctx, j.term, y)
			}
		}
		for i := range j.ctx {
			for _, place := range impl.RedexPlaces(j.ctx[i]) {
				ctx := slices.Clone(j.ctx)
				if y, ok := impl.ContractAt(ctx[i], place); ok {
					ctx[i] = y
					c.checkKeeps(t, "a contraction of the context", ctx, j.term, j.is)
				}
			}
		}
		if t.Failed() {
			t.Fatalf("the first term with a failure is %s", said(j.ctx, j.term))
		}
	}
	c.checkDecided(t, 4000)
	if later < 500 || below < 300 {
		t.Errorf("only %d redexes were not the first one, and %d were below binders", later, below)
	}
}

// Also terms without a type keep their normal term, at every redex.
func TestContractionsOfTermsWithoutATypePreserveNormalTerms(t *testing.T) {
	r := rand.New(rand.NewSource(12))
	decided := 0
	for range 1500 {
		x := randomReducible(r, 3+r.Intn(4), 1+r.Intn(3))
		if !impl.TermValid(x) {
			continue
		}
		for _, place := range impl.RedexPlaces(x) {
			if y, ok := impl.ContractAt(x, place); ok && checkSameNormal(t, x, y) {
				decided++
			}
		}
	}
	if decided < 3000 {
		t.Errorf("only %d normal terms were compared", decided)
	}
}

// Each part of a term with a type has a type in the context at its place, and
// a further variable of the context goes around all of them.
func TestPartsHaveTypesInTheirContexts(t *testing.T) {
	m := maker{rand.New(rand.NewSource(13))}
	parts := 0
	for round := range 250 {
		j := m.judgement(round%5, 2+round%2)
		for _, place := range impl.PlacesOf(j.term) {
			ctx, ok := impl.ContextAt(j.ctx, j.term, place)
			n, _ := impl.BindersAt(j.term, place)
			if !ok {
				if len(j.ctx)+n <= 8 {
					t.Errorf("there is no context for %s", saidPlace(j.term, place))
				}
				continue
			}
			part, _ := impl.TermAt(j.term, place)
			if len(ctx) != len(j.ctx)+n || !slices.EqualFunc(ctx[:len(j.ctx)], j.ctx, equalTerm) {
				t.Errorf("ContextAt of %s and %s = %s", textsOf(j.ctx), saidPlace(j.term, place), textsOf(ctx))
			}
			if _, code := impl.InferType(ctx, part); code != impl.TypeOk {
				t.Errorf("%s has no type in the context %s of its place: %d", textOf(part), textsOf(ctx), code)
			}
			parts++
		}
	}
	if parts < 2000 {
		t.Errorf("only %d parts were typed", parts)
	}
}

// checkPlacesApart writes over the memory of all places, and wants each of
// them to keep what was written into it.
func checkPlacesApart(t *testing.T, what string, places func() [][]int) {
	t.Helper()
	first, second := places(), places()
	want := make([][]int, len(second))
	for i := range second {
		want[i] = slices.Clone(second[i])
	}
	fill := func(list [][]int, with int) {
		for i := range list {
			all := list[i][:cap(list[i])]
			for k := range all {
				all[k] = with + i
			}
		}
	}
	holds := func(list [][]int, with int) bool {
		for i := range list {
			if slices.ContainsFunc(list[i][:cap(list[i])], func(n int) bool { return n != with+i }) {
				return false
			}
		}
		return true
	}
	fill(first, 1000)
	if !holds(first, 1000) {
		t.Errorf("%s: two places share memory", what)
	}
	checkPlaceList(t, what+", after another result was changed,", second, want)
	fill(second, 5000)
	if !holds(first, 1000) || !holds(second, 5000) {
		t.Errorf("%s: two results share memory", what)
	}
	clear(first[:cap(first)])
	if !holds(second, 5000) {
		t.Errorf("%s: the lists of two results share memory", what)
	}
	checkPlaceList(t, what+", called again,", places(), want)
}

func TestPlacesShareNoMemory(t *testing.T) {
	texts := []string{"#0", "[N](#0 +#1)", "(([N]+#0 0) (^|N,+0,0| [+0]+0))", "([N]([N](#0 #0) (#0 +0)) ([N]+#0 #1))", "(*0>(#0*[(#1 #0)]{#2,#0,^#1}))"}
	for _, c := range redexCases() {
		texts = append(texts, c.text)
	}
	for _, text := range texts {
		x, u := parse(t, text), parse(t, "(#0 [N]#1)")
		store := append(parseAll(t, []string{"(N>N)", "+#0"}), mk(77), nat())
		ctx := store[:2]
		checkPlacesApart(t, "PlacesOf of "+text, func() [][]int { return impl.PlacesOf(x) })
		checkPlacesApart(t, "RedexPlaces of "+text, func() [][]int { return impl.RedexPlaces(x) })
		for _, place := range wantPlaces(x) {
			numbers := append(slices.Clone(place), 77, 78)
			path := numbers[:len(place)]
			unchanged := func() bool {
				return equalTerm(x, parse(t, text)) && equalTerm(u, parse(t, "(#0 [N]#1)")) && slices.Equal(numbers, append(slices.Clone(place), 77, 78)) && slices.Equal(textsOf(ctx), []string{"(N>N)", "+#0"}) && store[2].Kind == 77 && store[3].Kind == impl.TermNat
			}
			for name, f := range map[string]func() (impl.Term, bool){
				"TermAt":              func() (impl.Term, bool) { return impl.TermAt(x, path) },
				"PutAt":               func() (impl.Term, bool) { return impl.PutAt(x, path, u) },
				"PutAt of the term":   func() (impl.Term, bool) { return impl.PutAt(x, path, x) },
				"PutAt of its part":   func() (impl.Term, bool) { return impl.PutAt(x, path, partAt(x, path)) },
				"PutAt of other part": func() (impl.Term, bool) { return impl.PutAt(x, path, partAt(x, place[:len(place)/2])) },
				"ContractAt":          func() (impl.Term, bool) { return impl.ContractAt(x, path) },
			} {
				if _, ok := f(); ok {
					checkLists(t, name+" of "+saidPlace(x, path), func() []impl.Term {
						got, _ := f()
						return []impl.Term{got}
					}, unchanged)
				}
			}
			checkLists(t, "ContextAt of "+saidPlace(x, path), func() []impl.Term {
				list, _ := impl.ContextAt(ctx, x, path)
				return emptied(t, list, nat())
			}, unchanged)
			impl.BindersAt(x, path)
			// A refused call does not change anything, either.
			impl.PutAt(x, path, succs(30, u))
			impl.PutAt(x, path, sized(399))
			impl.TermAt(x, append(slices.Clone(path), 9))
			impl.ContextAt(slices.Repeat(ctx, 4), parse(t, "[N][N]N"), []int{1, 1})
			if !unchanged() {
				t.Errorf("arguments are changed: %s", saidPlace(x, path))
			}
		}
	}
}

// Operands may share memory with each other, and with what is put beside them.
func TestPlacesOfSharedOperands(t *testing.T) {
	for _, c := range redexCases() {
		x := doubled(3, parse(t, c.text))
		for _, place := range [][]int{{0, 0, 0}, {1, 0, 1}, {1, 1, 1}} {
			got, ok := impl.ContractAt(x, place)
			checkTermResult(t, "ContractAt of shared operands", got, ok, putAt(copyTerm(x), place, parse(t, c.next)), true)
			checkSeparateParts(t, got)
			got, ok = impl.PutAt(x, place, x)
			checkTermResult(t, "PutAt of the term itself", got, ok, putAt(copyTerm(x), place, copyTerm(x)), true)
			checkSeparateParts(t, got)
			got, _ = impl.TermAt(x, place[:1])
			checkSeparateParts(t, got)
		}
		checkAllAt(t, nil, x)
		if !equalTerm(x, doubled(3, parse(t, c.text))) {
			t.Errorf("operands of %s are changed", c.text)
		}
	}
	a := parse(t, "(#0 +0)")
	x := mk(impl.TermLam, a, mk(impl.TermLam, a, a))
	list, ok := impl.ContextAt([]impl.Term{a, a}, x, []int{1, 1})
	if !ok || len(list) != 4 {
		t.Fatalf("ContextAt of shared operands = %s, %v", textsOf(list), ok)
	}
	checkSeparateParts(t, mk(impl.TermApp, list...))
	store := []impl.Term{parse(t, "([N]#0 0)"), parse(t, "^|N,0,0|"), mk(77)}
	x = impl.Term{Kind: impl.TermApp, Kids: store[:2]}
	checkAllAt(t, nil, x, nat())
	if !equalTerm(store[0], parse(t, "([N]#0 0)")) || !equalTerm(store[1], parse(t, "^|N,0,0|")) || store[2].Kind != 77 {
		t.Error("the memory of an argument is changed")
	}
}

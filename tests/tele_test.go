package tests

import (
	"fmt"
	"math"
	"math/rand"
	"slices"
	"strings"
	"testing"

	"loop.example/depkernel/impl"
)

// Promise 7: a term with a type in a context becomes a closed function with
// the type over the context.

// joining is one of the functions that join a list with a further term. It
// has the text of the result, written down a second time.
type joining struct {
	name   string
	kind   int
	join   func(list []impl.Term, x impl.Term) (impl.Term, bool)
	text   func(list []string, x string) string
	levels func(n, i int) int // from the root to the element i of n, or to the further term as the element n
}

func textOver(open, between, end string) func(list []string, x string) string {
	return func(list []string, x string) string {
		text := x
		if len(list) > 0 {
			text = open + strings.Join(list, between+open) + between + x
		}
		return text + strings.Repeat(end, len(list))
	}
}

func textApplied(list []string, f string) string {
	for _, a := range list {
		f = "(" + f + " " + a + ")"
	}
	return f
}

func joinings() []joining {
	fromOutside := func(n, i int) int { return min(i+1, n) }
	fromInside := func(n, i int) int {
		if i == n {
			return n
		}
		return n - i
	}
	apply := func(list []impl.Term, f impl.Term) (impl.Term, bool) { return impl.ApplyAll(f, list) }
	return []joining{
		{"PiOver", impl.TermPi, impl.PiOver, textOver("(", ">", ")"), fromOutside},
		{"LamOver", impl.TermLam, impl.LamOver, textOver("[", "]", ""), fromOutside},
		{"ApplyAll", impl.TermApp, apply, textApplied, fromInside},
	}
}

// checkJoin wants the term with the text, if there is one and the list is not
// too long, and wants it to be divided into the same parts again. It reports
// whether there is such a term. All kinds of nodes must be valid.
func checkJoin(t *testing.T, j joining, list []impl.Term, x impl.Term) bool {
	t.Helper()
	want, exists := impl.ParseTerm(j.text(textsOf(list), textOf(x)))
	exists = exists && len(list) <= 8
	got, ok := j.join(list, x)
	checkTermResult(t, j.name+" of "+said(list, x), got, ok, want, exists)
	if exists && j.kind == impl.TermPi {
		checkSplitPi(t, want, len(list), list, x, true)
	}
	if exists && j.kind == impl.TermApp {
		f, args := wantApplied(x)
		checkSplitApp(t, want, f, slices.Concat(args, list))
	}
	return exists
}

func checkJoins(t *testing.T, list []impl.Term, x impl.Term) {
	t.Helper()
	for _, j := range joinings() {
		checkJoin(t, j, list, x)
	}
}

// wantPis returns the first operands on the way, and what is at its end.
func wantPis(x impl.Term) ([]impl.Term, impl.Term) {
	if x.Kind != impl.TermPi {
		return nil, x
	}
	list, rest := wantPis(x.Kids[1])
	return slices.Insert(list, 0, x.Kids[0]), rest
}

func wantApplied(x impl.Term) (impl.Term, []impl.Term) {
	if x.Kind != impl.TermApp {
		return x, nil
	}
	f, list := wantApplied(x.Kids[0])
	return f, append(list, x.Kids[1])
}

func checkSplitPi(t *testing.T, x impl.Term, n int, list []impl.Term, rest impl.Term, exists bool) {
	t.Helper()
	gotList, got, ok := impl.SplitPi(x, n)
	checkTermResult(t, fmt.Sprint("SplitPi of ", textOf(x), " and ", n), got, ok, rest, exists)
	if !exists {
		list = nil
	}
	if !slices.EqualFunc(gotList, list, equalTerm) {
		t.Errorf("SplitPi of %s and %d = %s, want %s", textOf(x), n, textsOf(gotList), textsOf(list))
	}
}

func checkSplitApp(t *testing.T, x, f impl.Term, list []impl.Term) {
	t.Helper()
	got, gotList, ok := impl.SplitApp(x)
	if !ok || !equalTerm(got, f) || !slices.EqualFunc(gotList, list, equalTerm) {
		t.Errorf("SplitApp of %s = %s, %s, %v, want %s, %s", textOf(x), textOrZero(got), textsOf(gotList), ok, textOf(f), textsOf(list))
	}
}

// checkSplits needs x to be valid.
func checkSplits(t *testing.T, x impl.Term) {
	t.Helper()
	list, _ := wantPis(x)
	if got := impl.CountPi(x); got != len(list) {
		t.Errorf("CountPi of %s = %d, want %d", textOf(x), got, len(list))
	}
	rest := x
	for n := range 9 {
		if n > len(list) {
			checkSplitPi(t, x, n, nil, impl.Term{}, false)
			continue
		}
		checkSplitPi(t, x, n, list[:n], rest, true)
		if n < len(list) {
			rest = rest.Kids[1]
		}
	}
	for _, n := range []int{-1, -2, -8, math.MinInt, 9, 10, len(list) + 1, 29, 30, 31, math.MaxInt} {
		if n < 0 || n > 8 {
			checkSplitPi(t, x, n, nil, impl.Term{}, false)
		}
	}
	f, args := wantApplied(x)
	checkSplitApp(t, x, f, args)
}

func TestTypesAndFunctionsOverContexts(t *testing.T) {
	for _, c := range []struct {
		ctx     []string
		text    string
		pi, lam string
	}{
		{nil, "N", "N", "N"},
		{nil, "#0", "#0", "#0"},
		{nil, "(N>#0)", "(N>#0)", "(N>#0)"},
		{nil, "[N]#0", "[N]#0", "[N]#0"},
		{[]string{"N"}, "#0", "(N>#0)", "[N]#0"},
		{[]string{"N"}, "N", "(N>N)", "[N]N"},
		{[]string{"*0"}, "(#0>#1)", "(*0>(#0>#1))", "[*0](#0>#1)"},
		{[]string{"*0"}, "[#0]#0", "(*0>[#0]#0)", "[*0][#0]#0"},
		{[]string{"*0", "#0"}, "#1", "(*0>(#0>#1))", "[*0][#0]#1"},
		{[]string{"*0", "#0", "#1"}, "{#2,#1,#0}", "(*0>(#0>(#1>{#2,#1,#0})))", "[*0][#0][#1]{#2,#1,#0}"},
		{[]string{"*0", "#0", "(#1>#2)"}, "{#2,#1,(#0 #1)}", "(*0>(#0>((#1>#2)>{#2,#1,(#0 #1)})))", "[*0][#0][(#1>#2)]{#2,#1,(#0 #1)}"},
		{[]string{"N", "{N,#0,0}"}, "!#1", "(N>({N,#0,0}>!#1))", "[N][{N,#0,0}]!#1"},
		{[]string{"(N>*0)", "(N*(#1 #0))"}, "^#0", "((N>*0)>((N*(#1 #0))>^#0))", "[(N>*0)][(N*(#1 #0))]^#0"},
		{[]string{"N", "N"}, "<[N]N,#0,[N][N]#2,#1>", "(N>(N><[N]N,#0,[N][N]#2,#1>))", "[N][N]<[N]N,#0,[N][N]#2,#1>"},
		{[]string{"*0", "*1", "*2", "N"}, "0", "(*0>(*1>(*2>(N>0))))", "[*0][*1][*2][N]0"},
		// Free variables beyond the context.
		{[]string{"N"}, "#1", "(N>#1)", "[N]#1"},
		{[]string{"#0"}, "#0", "(#0>#0)", "[#0]#0"},
		{[]string{"#0", "#1"}, "#2", "(#0>(#1>#2))", "[#0][#1]#2"},
		{[]string{"#4", "(#0>#2)"}, "(#0 #3)", "(#4>((#0>#2)>(#0 #3)))", "[#4][(#0>#2)](#0 #3)"},
		{[]string{"#20", "#20"}, "(#20 [N]#20)", "(#20>(#20>(#20 [N]#20)))", "[#20][#20](#20 [N]#20)"},
		// No types are checked, and nothing is reduced.
		{[]string{"0", "!N"}, "+*0", "(0>(!N>+*0))", "[0][!N]+*0"},
		{[]string{"([N]#0 0)"}, "([N]#0 #0)", "(([N]#0 0)>([N]#0 #0))", "[([N]#0 0)]([N]#0 #0)"},
	} {
		ctx, x := parseAll(t, c.ctx), parse(t, c.text)
		got, ok := impl.PiOver(ctx, x)
		checkText(t, "PiOver of "+said(ctx, x), got, ok, c.pi)
		got, ok = impl.LamOver(ctx, x)
		checkText(t, "LamOver of "+said(ctx, x), got, ok, c.lam)
		checkJoins(t, ctx, x)
	}
}

func TestApplications(t *testing.T) {
	for _, c := range []struct {
		f    string
		args []string
		want string
	}{
		{"#0", nil, "#0"},
		{"[N]#0", nil, "[N]#0"},
		{"(#0 #1)", nil, "(#0 #1)"},
		{"#0", []string{"0"}, "(#0 0)"},
		{"#5", []string{"#1", "#0"}, "((#5 #1) #0)"},
		{"#0", []string{"0", "+0", "++0"}, "(((#0 0) +0) ++0)"},
		{"(#0 #1)", []string{"#2"}, "((#0 #1) #2)"},
		{"((#0 #1) #2)", []string{"#3", "#4"}, "((((#0 #1) #2) #3) #4)"},
		{"#0", []string{"(#1 #2)", "(#3 #4)"}, "((#0 (#1 #2)) (#3 #4))"},
		{"(#0 (#1 #2))", []string{"((#3 #4) #5)"}, "((#0 (#1 #2)) ((#3 #4) #5))"},
		{"[N]+#0", []string{"++0"}, "([N]+#0 ++0)"},
		{"[*0][#0]#0", []string{"N", "0"}, "(([*0][#0]#0 N) 0)"},
		{"0", []string{"N", "*3"}, "((0 N) *3)"},
		{"([N]#0 [N]#0)", []string{"0"}, "(([N]#0 [N]#0) 0)"},
	} {
		f, args := parse(t, c.f), parseAll(t, c.args)
		got, ok := impl.ApplyAll(f, args)
		checkText(t, "ApplyAll of "+said(args, f), got, ok, c.want)
		checkJoins(t, args, f)
		checkSplits(t, got)
	}
}

func TestSplitTypesOfFunctions(t *testing.T) {
	for _, c := range []struct {
		text string
		list []string
		rest string
	}{
		{"(*0>(#0>#1))", []string{"*0", "#0"}, "#1"},
		{"(N>N)", []string{"N"}, "N"},
		{"(N>(N>(N>N)))", []string{"N", "N", "N"}, "N"},
		{"(*0>(#0>((#1>#2)>{#2,#1,(#0 #1)})))", []string{"*0", "#0", "(#1>#2)"}, "{#2,#1,(#0 #1)}"},
		{"((N>N)>N)", []string{"(N>N)"}, "N"},
		{"((N>(N>N))>((N>N)>#0))", []string{"(N>(N>N))", "(N>N)"}, "#0"},
		{"(#3>(#4>#20))", []string{"#3", "#4"}, "#20"},
		// Types that are not, or do not end with, types of functions.
		{"N", nil, "N"}, {"#0", nil, "#0"}, {"*3", nil, "*3"}, {"[N]N", nil, "[N]N"}, {"[N](N>N)", nil, "[N](N>N)"}, {"(#0 (N>N))", nil, "(#0 (N>N))"}, {"((N>N) N)", nil, "((N>N) N)"},
		{"(N*(N>N))", nil, "(N*(N>N))"}, {"((N>N)*N)", nil, "((N>N)*N)"}, {"{(N>N),0,0}", nil, "{(N>N),0,0}"}, {"+(N>N)", nil, "+(N>N)"}, {"^(N>N)", nil, "^(N>N)"},
		{"(N>(N*(N>N)))", []string{"N"}, "(N*(N>N))"}, {"(N>[N](N>N))", []string{"N"}, "[N](N>N)"}, {"(N>(#0 (N>N)))", []string{"N"}, "(#0 (N>N))"}, {"(N>(N>((N>N) N)))", []string{"N", "N"}, "((N>N) N)"},
		// Nothing is reduced.
		{"([*0]#0 (N>N))", nil, "([*0]#0 (N>N))"}, {"(N>([*0]#0 (N>N)))", []string{"N"}, "([*0]#0 (N>N))"}, {"^|(*0*N),(N>N),0|", nil, "^|(*0*N),(N>N),0|"}, {"(([*0]#0 N)>N)", []string{"([*0]#0 N)"}, "N"},
	} {
		x, list := parse(t, c.text), parseAll(t, c.list)
		if got := impl.CountPi(x); got != len(list) {
			t.Errorf("CountPi of %s = %d", c.text, got)
		}
		checkSplitPi(t, x, len(list), list, parse(t, c.rest), true)
		checkSplitPi(t, x, 0, nil, x, true)
		checkSplitPi(t, x, len(list)+1, nil, impl.Term{}, false)
		checkSplitPi(t, x, -1, nil, impl.Term{}, false)
		checkSplits(t, x)
	}
	x := parse(t, "(*0>(#0>(#1>#2)))")
	checkSplitPi(t, x, 1, parseAll(t, []string{"*0"}), parse(t, "(#0>(#1>#2))"), true)
	checkSplitPi(t, x, 2, parseAll(t, []string{"*0", "#0"}), parse(t, "(#1>#2)"), true)
}

func TestSplitApplications(t *testing.T) {
	for _, c := range []struct {
		text string
		f    string
		list []string
	}{
		{"(#0 #1)", "#0", []string{"#1"}},
		{"((#0 #1) #2)", "#0", []string{"#1", "#2"}},
		{"(((#0 0) +0) ++0)", "#0", []string{"0", "+0", "++0"}},
		{"(#0 (#1 #2))", "#0", []string{"(#1 #2)"}},
		{"((#0 (#1 #2)) ((#3 #4) #5))", "#0", []string{"(#1 #2)", "((#3 #4) #5)"}},
		{"([N]+#0 ++0)", "[N]+#0", []string{"++0"}},
		{"(([N][N](#0 #1) 0) N)", "[N][N](#0 #1)", []string{"0", "N"}},
		{"((N>N) 0)", "(N>N)", []string{"0"}},
		{"(^#0 _#0)", "^#0", []string{"_#0"}},
		{"(^(#0 #1) 0)", "^(#0 #1)", []string{"0"}},
		{"(<#0,#1,#2,(#3 #4)> 0)", "<#0,#1,#2,(#3 #4)>", []string{"0"}},
		// Terms that are no applications.
		{"#0", "#0", nil}, {"0", "0", nil}, {"N", "N", nil}, {"[N](#0 #1)", "[N](#0 #1)", nil}, {"((#0 #1)>(#0 #1))", "((#0 #1)>(#0 #1))", nil}, {"((#0 #1)*(#0 #1))", "((#0 #1)*(#0 #1))", nil},
		{"+(#0 #1)", "+(#0 #1)", nil}, {"!(#0 #1)", "!(#0 #1)", nil}, {"^(#0 #1)", "^(#0 #1)", nil}, {"|(#0 #1),(#0 #1),(#0 #1)|", "|(#0 #1),(#0 #1),(#0 #1)|", nil}, {"@<(#0 #1),(#0 #1),(#0 #1)>", "@<(#0 #1),(#0 #1),(#0 #1)>", nil},
	} {
		x := parse(t, c.text)
		checkSplitApp(t, x, parse(t, c.f), parseAll(t, c.list))
		checkSplits(t, x)
	}
}

// A function with many arguments is split although ApplyAll does not build it
// at once; a type of functions is counted, but only split in part.
func TestMoreThanMaxContext(t *testing.T) {
	for n := range 30 {
		args := make([]impl.Term, n)
		for i := range args {
			args[i] = variable(i % 21)
		}
		x := parse(t, textApplied(textsOf(args), "N"))
		checkSplitApp(t, x, nat(), args)
		checkSplits(t, x)
		p := parse(t, textOver("(", ">", ")")(textsOf(args), "N"))
		if got := impl.CountPi(p); got != n {
			t.Errorf("CountPi of %s = %d", textOf(p), got)
		}
		checkSplits(t, p)
		if n >= 8 {
			checkSplitPi(t, p, 8, args[:8], parse(t, textOver("(", ">", ")")(textsOf(args[8:]), "N")), true)
		}
		checkSplitPi(t, p, 9, nil, impl.Term{}, false)
		checkJoins(t, args, zero())
		checkJoins(t, args[:min(n, 8)], x)
	}
}

func TestNumberOfElements(t *testing.T) {
	for _, n := range []int{0, 1, 2, 7, 8, 9, 10, 16, 20, 29, 30, 1000000} {
		for _, x := range []impl.Term{nat(), variable(0), parse(t, "[N]#0"), parse(t, "(#0 #1)")} {
			list := make([]impl.Term, n)
			for i := range list {
				list[i] = variable(i % 21)
			}
			for _, j := range joinings() {
				got, ok := j.join(list, x)
				if n > 8 {
					checkRefused(t, fmt.Sprint(j.name, " of ", n, " elements"), got, ok)
				} else if !checkJoin(t, j, list, x) || !ok {
					t.Errorf("%s of %d elements = %s, %v", j.name, n, textOrZero(got), ok)
				}
			}
		}
	}
}

// Each element, and the further term, is as large as it can be, or larger by
// one.
func TestSizesOverContexts(t *testing.T) {
	for _, j := range joinings() {
		for n := range 9 {
			for i := range n + 1 {
				list := slices.Repeat([]impl.Term{nat()}, n+1) // the last one is the further term
				check := func(what string, valid bool) {
					t.Helper()
					if got := checkJoin(t, j, list[:n], list[n]); got != valid {
						t.Fatalf("the test is wrong: %s of %d elements with %s at %d: %v", j.name, n, what, i, got)
					}
					_, ok := j.join(list[:n], list[n])
					if ok != valid {
						t.Errorf("%s of %d elements with %s at %d: %v", j.name, n, what, i, ok)
					}
				}
				for extra := -1; extra <= 2; extra++ {
					list[i] = sized(400 - 2*n + extra)
					check("many nodes", extra <= 0)
					list[i] = succs(29-j.levels(n, i)+extra, zero())
					check("great depth", extra <= 0)
				}
			}
			half := slices.Repeat([]impl.Term{sized(380 / (n + 1))}, n+1)
			checkJoins(t, half[:n], half[n])
			last := 400 - n - n*(380/(n+1))
			for extra := range 2 {
				half[n] = sized(last + extra)
				if checkJoin(t, j, half[:n], half[n]) != (extra == 0) {
					t.Fatalf("the test is wrong: %s of %d large elements", j.name, n)
				}
			}
		}
	}
}

func TestVariablesOfContexts(t *testing.T) {
	for n := range 9 {
		var want []impl.Term
		for i := n - 1; i >= 0; i-- {
			want = append(want, variable(i))
		}
		got, ok := impl.ContextVars(n)
		if !ok || !slices.EqualFunc(got, want, equalTerm) {
			t.Errorf("ContextVars(%d) = %s, %v", n, textsOf(got), ok)
		}
	}
	if got, ok := impl.ContextVars(3); !ok || strings.Join(textsOf(got), " ") != "#2 #1 #0" {
		t.Errorf("ContextVars(3) = %s, %v", textsOf(got), ok)
	}
	for _, n := range []int{-1, -2, -8, math.MinInt, 9, 10, 20, 21, 1000000, math.MaxInt} {
		if got, ok := impl.ContextVars(n); ok || len(got) != 0 {
			t.Errorf("ContextVars(%d) = %s, %v", n, textsOf(got), ok)
		}
	}
}

func TestTelescopesOfInvalidTerms(t *testing.T) {
	for i, x := range invalidTerms() {
		what := fmt.Sprint("the invalid term ", i)
		for _, ctx := range [][]impl.Term{nil, {nat()}, {sort(0), variable(0)}, slices.Repeat([]impl.Term{nat()}, 7), slices.Repeat([]impl.Term{nat()}, 8)} {
			for _, j := range joinings() {
				got, ok := j.join(ctx, x)
				checkRefused(t, j.name+" with "+what, got, ok)
				for place := range len(ctx) + 1 {
					longer := slices.Insert(slices.Clone(ctx), place, x)
					got, ok = j.join(longer, nat())
					checkRefused(t, j.name+" of "+what, got, ok)
					got, ok = j.join(longer, x)
					checkRefused(t, j.name+" of and with "+what, got, ok)
				}
			}
		}
		for _, y := range []impl.Term{x, mk(impl.TermPi, nat(), x), mk(impl.TermPi, x, nat()), mk(impl.TermApp, x, nat()), mk(impl.TermApp, nat(), x), mk(impl.TermPi, nat(), mk(impl.TermPi, x, nat()))} {
			if got := impl.CountPi(y); got != 0 {
				t.Errorf("CountPi of %s = %d", what, got)
			}
			for n := -1; n <= 9; n++ {
				list, got, ok := impl.SplitPi(y, n)
				checkRefused(t, fmt.Sprint("SplitPi of ", what, " and ", n), got, ok)
				if len(list) != 0 {
					t.Errorf("SplitPi of %s returns a list", what)
				}
			}
			got, list, ok := impl.SplitApp(y)
			checkRefused(t, "SplitApp of "+what, got, ok)
			if len(list) != 0 {
				t.Errorf("SplitApp of %s returns a list", what)
			}
		}
	}
}

// Nodes that are missing operands must not be passed.
func TestSplitsOfNodesWithoutOperands(t *testing.T) {
	for _, kind := range []int{impl.TermPi, impl.TermApp} {
		for _, x := range []impl.Term{mk(kind), mk(kind, nat()), mk(kind, nat(), nat(), nat()), mk(kind, nat(), mk(kind)), mk(kind, mk(kind), nat()), ring(2, kind), {Kind: kind, N: 1, Kids: []impl.Term{nat(), nat()}}} {
			list, rest, ok := impl.SplitPi(x, 1)
			checkRefused(t, "SplitPi", rest, ok)
			f, args, ok := impl.SplitApp(x)
			checkRefused(t, "SplitApp", f, ok)
			if len(list)+len(args) != 0 || impl.CountPi(x) != 0 {
				t.Error("an invalid term is split")
			}
		}
	}
}

// checkLists wants the lists and terms that f returns to share no memory with
// those of another call, with each other or with what unchanged looks at.
func checkLists(t *testing.T, what string, f func() []impl.Term, unchanged func() bool) {
	t.Helper()
	first, second := f(), f()
	wants := make([]impl.Term, len(second))
	for i := range second {
		wants[i] = copyTerm(second[i])
	}
	if len(first) == 0 || !slices.EqualFunc(first, wants, equalTerm) {
		t.Fatalf("%s: two calls return %s and %s", what, textsOf(first), textsOf(wants))
	}
	checkSeparateParts(t, mk(impl.TermApp, second...))
	for i := range first {
		overwrite(first[i])
		if !slices.EqualFunc(first[i+1:], wants[i+1:], equalTerm) || !slices.EqualFunc(second, wants, equalTerm) {
			t.Errorf("%s: results share memory", what)
		}
	}
	if !unchanged() {
		t.Errorf("%s: arguments are changed, or share memory with the result", what)
	}
}

func TestTelescopesShareNoMemory(t *testing.T) {
	for _, c := range [][]string{
		{"(#0 [N]#0)"}, {"[N]#1", "N", "(#1 #0)"}, {"((N>#0)>({N,#0,#1}>((#0 0)>+#1)))", "*0", "(#0>#0)"}, {"((#0 #1) +#2)", "(N>N)", "(N*N)", "{N,0,#2}"}, {"+0", "+0", "+0", "+0", "+0", "+0", "+0", "+0", "+0"},
	} {
		x := parse(t, c[0])
		store := append(parseAll(t, c[1:]), mk(77), nat())
		list := store[:len(c)-1]
		before := textsOf(list)
		unchanged := func() bool {
			return equalTerm(x, parse(t, c[0])) && slices.Equal(textsOf(list), before) && store[len(list)].Kind == 77 && store[len(list)+1].Kind == impl.TermNat
		}
		for _, j := range joinings() {
			checkLists(t, j.name, func() []impl.Term {
				got, _ := j.join(list, x)
				return []impl.Term{got}
			}, unchanged)
		}
		for n := range impl.CountPi(x) + 1 {
			checkLists(t, "SplitPi", func() []impl.Term {
				parts, rest, _ := impl.SplitPi(x, n)
				return emptied(t, parts, rest)
			}, unchanged)
		}
		checkLists(t, "SplitApp", func() []impl.Term {
			f, args, _ := impl.SplitApp(x)
			return emptied(t, args, f)
		}, unchanged)
		// A refused call does not change anything, either.
		for _, j := range joinings() {
			j.join(slices.Repeat(list, 9), x)
			j.join(list, succs(30, x))
		}
		if !unchanged() {
			t.Error("a refused call changes its arguments")
		}
	}
	first, _ := impl.ContextVars(4)
	second, _ := impl.ContextVars(4)
	clear(first[:cap(first)])
	if strings.Join(textsOf(second), " ") != "#3 #2 #1 #0" {
		t.Error("two results of ContextVars share memory")
	}
}

// emptied returns the elements and x, and writes over the memory of the list,
// also beyond its length.
func emptied(t *testing.T, list []impl.Term, x impl.Term) []impl.Term {
	t.Helper()
	all := append(slices.Clone(list), x)
	before := textsOf(all)
	clear(list[:cap(list)])
	if !slices.Equal(textsOf(all), before) {
		t.Errorf("the list of %s shares memory with its elements or with %s", before, textOf(x))
	}
	return all
}

// The elements, and their operands, may share memory with each other.
func TestTelescopesOfSharedTerms(t *testing.T) {
	for levels := range 5 {
		x := doubled(levels, parse(t, "(N>#0)"))
		list := []impl.Term{x, x, x, x}
		checkJoins(t, list, x)
		for _, j := range joinings() {
			got, ok := j.join(list, x)
			if !ok {
				t.Errorf("%s refuses shared terms", j.name)
			}
			checkSeparateParts(t, got)
			again, ok := j.join(list[1:], got)
			if ok {
				checkSeparateParts(t, again)
			}
		}
		kids := []impl.Term{x, x}
		p := impl.Term{Kind: impl.TermPi, Kids: []impl.Term{x, {Kind: impl.TermPi, Kids: kids}}}
		types, rest, ok := impl.SplitPi(p, 2)
		if !ok || len(types) != 2 {
			t.Fatalf("SplitPi of shared terms = %s, %v", textsOf(types), ok)
		}
		checkSeparateParts(t, mk(impl.TermApp, types[0], types[1], rest))
		f, args, ok := impl.SplitApp(impl.Term{Kind: impl.TermApp, Kids: []impl.Term{{Kind: impl.TermApp, Kids: kids}, x}})
		if !ok || len(args) != levels+2 {
			t.Fatalf("SplitApp of shared terms = %s, %v", textsOf(args), ok)
		}
		checkSeparateParts(t, mk(impl.TermApp, append(args, f)...))
	}
}

func TestTelescopesOfRandomTerms(t *testing.T) {
	r := rand.New(rand.NewSource(7))
	joined, beyond := 0, 0
	for range 8000 {
		x := randomOpen(r, 1+r.Intn(5), 1+r.Intn(15))
		if !impl.TermValid(x) {
			continue
		}
		checkSplits(t, x)
		var list []impl.Term
		for range r.Intn(10) {
			if a := randomOpen(r, 1+r.Intn(3), 1+r.Intn(15)); impl.TermValid(a) {
				list = append(list, a)
			}
		}
		checkJoins(t, list, x)
		p, ok := impl.PiOver(list, x)
		if !ok {
			continue
		}
		joined++
		if impl.MaxFree(p) > 0 {
			beyond++
		}
		checkSplits(t, p)
		if t.Failed() {
			t.Fatalf("the first case with a failure is %s", said(list, x))
		}
	}
	if joined < 4000 || beyond < 1000 {
		t.Errorf("only %d terms were joined with lists, and %d had free variables", joined, beyond)
	}
}

// checkOver wants the functions over the context, and over each of its ends,
// to have the types that belong to them.
func checkOver(t *testing.T, c *tally, j judgement) {
	t.Helper()
	_, sortCode := impl.SortOf(j.ctx, j.is)
	for first := range len(j.ctx) + 1 {
		around, ctx := j.ctx[:first], j.ctx[first:]
		f, ok := impl.LamOver(ctx, j.term)
		p, fine := impl.PiOver(ctx, j.is)
		if !ok || !fine {
			c.open++
			continue
		}
		c.decided++
		if impl.MaxFree(f) > first || impl.MaxFree(p) > first {
			t.Errorf("%s or %s has a free variable", textOf(f), textOf(p))
		}
		want, wantCode := p, impl.TypeOk
		if len(ctx) > 0 && sortCode != impl.TypeOk { // the type of a function must itself have a type
			want, wantCode = impl.Term{}, sortCode
		}
		found, code := impl.InferType(around, f)
		checkTyped(t, "InferType of "+said(around, f), found, code, want, wantCode)
		if code := impl.CheckType(around, f, p); code != sortCode {
			t.Errorf("CheckType of %s and %s = %d, want %d", said(around, f), textOf(p), code, sortCode)
		}
		level, _ := impl.SortOf(j.ctx, j.is)
		for k := first; k < len(j.ctx) && sortCode == impl.TypeOk; k++ {
			level = max(level, levelOf(j.ctx[:k], j.ctx[k]))
		}
		if n, code := impl.SortOf(around, p); code != sortCode || n != level {
			t.Errorf("SortOf of %s = %d, %d, want %d, %d", said(around, p), n, code, level, sortCode)
		}
		if further, ok := impl.LamOver(around, f); ok {
			all, _ := impl.LamOver(j.ctx, j.term)
			checkTermResult(t, "LamOver of both parts of "+said(j.ctx, j.term), further, true, all, true)
		}
	}
}

func TestFunctionsOverContextsHaveTheTypes(t *testing.T) {
	for _, c := range []struct {
		ctx       []string
		text      string
		is        string
		statement string
	}{
		{nil, "[N]#0", "(N>N)", "(N>N)"},
		{[]string{"N"}, "+#0", "N", "(N>N)"},
		{[]string{"*0", "#0"}, "#0", "#1", "(*0>(#0>#1))"},
		{[]string{"*0", "#0"}, "!#0", "{#1,#0,#0}", "(*0>(#0>{#1,#0,#0}))"},
		{[]string{"*0", "#0", "(#1>#2)"}, "(#0 #1)", "#2", "(*0>(#0>((#1>#2)>#2)))"},
		{[]string{"*0", "*0", "(#1>#1)", "#2"}, "(#1 #0)", "#2", "(*0>(*0>((#1>#1)>(#2>#2))))"},
		{[]string{"N", "(N>*0)", "(#0 #1)"}, "|(N*(#2 #0)),#2,#0|", "(N*(#2 #0))", "(N>((N>*0)>((#0 #1)>(N*(#2 #0)))))"},
		{[]string{"N", "N", "{N,#1,#0}"}, "@<[N]{N,#0,#3},#0,!#2>", "([N]{N,#0,#3} #1)", "(N>(N>({N,#1,#0}>([N]{N,#0,#3} #1))))"},
		{[]string{"N", "(N*{N,#0,#1})"}, "_#0", "{N,^#0,#1}", "(N>((N*{N,#0,#1})>{N,^#0,#1}))"},
		{[]string{"N", "N"}, "<[N]N,#0,[N][N]+#0,#1>", "([N]N #1)", "(N>(N>([N]N #1)))"},
		{[]string{"*2"}, "*1", "*2", "(*2>*2)"},
		{[]string{"*0", "#0", "#1", "#2", "#3", "#4", "#5", "#6"}, "#6", "#7", "(*0>(#0>(#1>(#2>(#3>(#4>(#5>(#6>#7))))))))"},
	} {
		j := judgement{parseAll(t, c.ctx), parse(t, c.text), parse(t, c.is)}
		f, _ := impl.LamOver(j.ctx, j.term)
		p, ok := impl.PiOver(j.ctx, j.is)
		checkText(t, "PiOver of "+said(j.ctx, j.is), p, ok, c.statement)
		found, code := impl.InferType(nil, f)
		checkTyped(t, "InferType of "+textOf(f), found, code, parse(t, c.statement), impl.TypeOk)
		var seen tally
		checkOver(t, &seen, j)
		if seen.open > 0 {
			t.Errorf("%s is past a limit", said(j.ctx, j.term))
		}
		checkVariables(t, j.ctx)
	}
	// `*3` is inferred for `*2`, but it has no type, and neither has a function
	// with results of this type.
	j := judgement{parseAll(t, []string{"N"}), sort(2), sort(3)}
	checkOver(t, &tally{}, j)
	if _, code := impl.InferType(nil, parse(t, "[N]*2")); code != impl.TypeBad {
		t.Errorf("the code of [N]*2 is %d", code)
	}
}

// checkVariables wants the function for each variable to have the type of the
// variable over the context.
func checkVariables(t *testing.T, ctx []impl.Term) {
	t.Helper()
	vars, ok := impl.ContextVars(len(ctx))
	if !ok {
		t.Fatalf("there are no variables of %s", textsOf(ctx))
	}
	for i, x := range vars {
		f, _ := impl.LamOver(ctx, x)
		p, _ := impl.PiOver(ctx, moved(ctx[i], len(ctx)-i))
		found, code := impl.InferType(nil, f)
		checkTyped(t, "InferType of "+textOrZero(f), found, code, p, impl.TypeOk)
	}
}

func TestRandomFunctionsOverContextsHaveTheTypes(t *testing.T) {
	m := maker{rand.New(rand.NewSource(9))}
	var c tally
	codes := map[int]int{}
	for round := range 700 {
		j := m.judgement(round%6, 2+round%2)
		checkOver(t, &c, j)
		// What has no type has none as a function, either.
		x := m.changed(j.term)
		found, code := impl.InferType(j.ctx, x)
		if code == impl.TypeOk {
			_, code = impl.SortOf(j.ctx, found)
		}
		f, ok := impl.LamOver(j.ctx, x)
		p, fine := impl.PiOver(j.ctx, found)
		if len(j.ctx) == 0 || !ok || !isZeroTerm(found) && !fine {
			continue
		}
		codes[code]++
		if code != impl.TypeOk {
			p = impl.Term{}
		}
		got, gotCode := impl.InferType(nil, f)
		checkTyped(t, "InferType of "+textOf(f), got, gotCode, p, code)
	}
	c.checkDecided(t, 2000)
	if codes[impl.TypeOk] < 50 || codes[impl.TypeBad] < 100 {
		t.Errorf("there are too few terms of one kind: %v", codes)
	}
}

// checkBack applies the function over an end of a context to the variables of
// this end, and wants steps to lead back to the term. It returns false if a
// limit is reached.
func checkBack(t *testing.T, j judgement, first int) bool {
	t.Helper()
	n := len(j.ctx) - first
	f, ok := impl.LamOver(j.ctx[first:], j.term)
	vars, fine := impl.ContextVars(n)
	if !ok || !fine {
		return false
	}
	inside, ok := impl.ShiftTerm(f, n, 0)
	x, fine := impl.ApplyAll(inside, vars)
	if !ok || !fine {
		return false
	}
	if code := impl.CheckType(j.ctx, x, j.is); levelOf(j.ctx, j.is) >= 0 && code != impl.TypeOk && code != impl.TypeOpen {
		t.Errorf("CheckType of %s and %s = %d", said(j.ctx, x), textOf(j.is), code)
	}
	for range n {
		y, code := impl.StepTerm(x)
		if code == impl.StepLarge {
			return false
		}
		x = y
	}
	checkTermResult(t, "the function over a part of "+said(j.ctx, j.term)+", applied to its variables,", x, true, j.term, true)
	return true
}

func TestFunctionsAppliedToTheVariables(t *testing.T) {
	for _, c := range []struct {
		ctx  []string
		text string
		is   string
	}{
		{nil, "0", "N"}, {nil, "[N]#0", "(N>N)"}, {[]string{"N"}, "#0", "N"}, {[]string{"N", "N"}, "#1", "N"}, {[]string{"N", "N", "N"}, "{N,#2,#0}", "*0"},
		{[]string{"*0", "#0", "(#1>#2)"}, "(#0 #1)", "#2"}, {[]string{"*0", "(#0>*0)", "#1", "(#1 #0)"}, "|(#3*(#3 #0)),#1,#0|", "(#3*(#3 #0))"}, {[]string{"N", "(N>N)"}, "[N](#1 (#1 #2))", "(N>N)"},
		{[]string{"*0", "#0", "#1", "#2", "#3", "#4", "#5", "#6"}, "[#7]{#8,#1,#0}", "(#7>*0)"},
	} {
		j := judgement{parseAll(t, c.ctx), parse(t, c.text), parse(t, c.is)}
		for first := range len(j.ctx) + 1 {
			if !checkBack(t, j, first) {
				t.Errorf("%s is past a limit", said(j.ctx, j.term))
			}
		}
	}
	m := maker{rand.New(rand.NewSource(10))}
	var c tally
	for round := range 700 {
		j := m.judgement(round%6, 2+round%2)
		for first := range len(j.ctx) + 1 {
			if checkBack(t, j, first) {
				c.decided++
			} else {
				c.open++
			}
		}
	}
	c.checkDecided(t, 2000)
}

package tests

import (
	"fmt"
	"math/rand"
	"slices"
	"strings"
	"testing"

	"loop.example/depkernel/impl"
)

// Promise 5: steps preserve types, and substitutions and further variables
// do, too.

// judge is chapter 5, written down a second time: a context as a slice. It
// remembers nothing, and ends with a panic at the first code that is not
// TypeOk.
type judge []impl.Term

type judged int

// ends returns the code with which f ends.
func ends(f func()) (code int) {
	defer func() {
		if r := recover(); r != nil {
			code = int(r.(judged))
		}
	}()
	f()
	return impl.TypeOk
}

func (j judge) open(x impl.Term) impl.Term {
	if !impl.TermValid(x) {
		panic(judged(impl.TypeOpen))
	}
	return x
}

func (j judge) longer(a impl.Term) judge {
	if len(j) >= 20 {
		panic(judged(impl.TypeOpen))
	}
	return append(slices.Clone(j), a)
}

func (j judge) form(x impl.Term, kind int) impl.Term {
	y, code := impl.HeadNormal(x, 200)
	if code != impl.NormOk {
		panic(judged(impl.TypeOpen))
	}
	if y.Kind != kind {
		panic(judged(impl.TypeBad))
	}
	return y
}

func (j judge) compare(a, b impl.Term) {
	switch impl.Convertible(j.open(a), j.open(b), 200) {
	case impl.ConvNo:
		panic(judged(impl.TypeBad))
	case impl.ConvOpen:
		panic(judged(impl.TypeOpen))
	}
}

func (j judge) level(x impl.Term) int { return j.form(j.typeOf(x), impl.TermSort).N }

func (j judge) check(x, want impl.Term) { j.compare(j.typeOf(x), want) }

func (j judge) family(p, over impl.Term) {
	f := j.form(j.typeOf(p), impl.TermPi)
	j.compare(f.Kids[0], over)
	j.form(f.Kids[1], impl.TermSort)
}

func (j judge) typeOf(x impl.Term) impl.Term {
	part := func(i int) impl.Term { return x.Kids[i] }
	shifted := func(y impl.Term, n int) impl.Term {
		z, _ := wantShift(y, n, 0)
		return z
	}
	apply := func(f, a impl.Term) impl.Term { return mk(impl.TermApp, f, a) }
	switch x.Kind {
	case impl.TermVar:
		if x.N >= len(j) {
			panic(judged(impl.TypeBad))
		}
		return j.open(shifted(j[len(j)-1-x.N], x.N+1))
	case impl.TermSort:
		if x.N == 3 {
			panic(judged(impl.TypeBad))
		}
		return sort(x.N + 1)
	case impl.TermPi, impl.TermSigma:
		i := j.level(part(0))
		return sort(max(i, j.longer(part(0)).level(part(1))))
	case impl.TermLam:
		j.level(part(0))
		f := j.open(mk(impl.TermPi, part(0), j.longer(part(0)).typeOf(part(1))))
		j.typeOf(f)
		return f
	case impl.TermApp:
		f := j.form(j.typeOf(part(0)), impl.TermPi)
		j.check(part(1), f.Kids[0])
		return j.open(wantSubst(f.Kids[1], 0, part(1)))
	case impl.TermNat:
		return sort(0)
	case impl.TermZero:
		return nat()
	case impl.TermSucc:
		j.check(part(0), nat())
		return nat()
	case impl.TermElim:
		p := part(0)
		j.family(p, nat())
		j.check(part(1), apply(p, zero()))
		result, next := apply(shifted(p, 1), variable(0)), apply(shifted(p, 2), succs(1, variable(1)))
		j.check(part(2), mk(impl.TermPi, nat(), mk(impl.TermPi, result, next)))
		j.check(part(3), nat())
		return j.open(apply(p, part(3)))
	case impl.TermId:
		i := j.level(part(0))
		j.check(part(1), part(0))
		j.check(part(2), part(0))
		return sort(i)
	case impl.TermRefl:
		y := j.typeOf(part(0))
		j.level(y)
		return j.open(mk(impl.TermId, y, part(0), part(0)))
	case impl.TermMove:
		e := j.form(j.typeOf(part(1)), impl.TermId)
		j.family(part(0), e.Kids[0])
		j.check(part(2), apply(part(0), e.Kids[1]))
		return j.open(apply(part(0), e.Kids[2]))
	case impl.TermPair:
		j.level(part(0))
		pairs := j.form(part(0), impl.TermSigma)
		j.check(part(1), pairs.Kids[0])
		j.check(part(2), wantSubst(pairs.Kids[1], 0, part(1)))
		return part(0)
	case impl.TermFst:
		return j.form(j.typeOf(part(0)), impl.TermSigma).Kids[0]
	}
	pairs := j.form(j.typeOf(part(0)), impl.TermSigma)
	return j.open(wantSubst(pairs.Kids[1], 0, mk(impl.TermFst, part(0))))
}

func anyInvalid(list ...impl.Term) bool {
	return slices.ContainsFunc(list, func(x impl.Term) bool { return !impl.TermValid(x) })
}

func wantContext(ctx []impl.Term) int {
	if len(ctx) > 8 || anyInvalid(ctx...) {
		return impl.TypeInvalid
	}
	return ends(func() {
		for i, a := range ctx {
			judge(ctx[:i]).level(a)
		}
	})
}

// wantIn returns the code with which f ends, if the context and the terms
// allow to begin.
func wantIn(ctx []impl.Term, terms []impl.Term, f func(j judge)) int {
	code := wantContext(ctx)
	if anyInvalid(terms...) {
		code = impl.TypeInvalid
	}
	if code != impl.TypeOk {
		return code
	}
	return ends(func() { f(judge(ctx)) })
}

func wantType(ctx []impl.Term, x impl.Term) (found impl.Term, code int) {
	code = wantIn(ctx, []impl.Term{x}, func(j judge) { found = j.typeOf(x) })
	return found, code
}

func wantLevel(ctx []impl.Term, x impl.Term) (n int, code int) {
	code = wantIn(ctx, []impl.Term{x}, func(j judge) { n = j.level(x) })
	return n, code
}

func wantCheck(ctx []impl.Term, x, want impl.Term) int {
	return wantIn(ctx, []impl.Term{x, want}, func(j judge) {
		j.level(want)
		j.check(x, want)
	})
}

func wantNormalType(ctx []impl.Term, x impl.Term) (impl.Term, int) {
	found, code := wantType(ctx, x)
	if code != impl.TypeOk {
		return impl.Term{}, code
	}
	normal, code := impl.Normalize(found, 200)
	if code != impl.NormOk {
		return impl.Term{}, impl.TypeOpen
	}
	return normal, impl.TypeOk
}

func said(ctx []impl.Term, x impl.Term) string {
	return fmt.Sprint(textsOf(ctx), " and ", textOrZero(x))
}

// checkTyping compares all functions of the chapter. It checks x against
// each of the types and against its own.
func checkTyping(t *testing.T, ctx []impl.Term, x impl.Term, types ...impl.Term) {
	t.Helper()
	if got, want := impl.CheckContext(ctx), wantContext(ctx); got != want {
		t.Errorf("CheckContext of %s = %d, want %d", textsOf(ctx), got, want)
	}
	found, code := wantType(ctx, x)
	got, gotCode := impl.InferType(ctx, x)
	checkTyped(t, "InferType of "+said(ctx, x), got, gotCode, found, code)
	normal, code := wantNormalType(ctx, x)
	got, gotCode = impl.InferNormal(ctx, x)
	checkTyped(t, "InferNormal of "+said(ctx, x), got, gotCode, normal, code)
	n, code := wantLevel(ctx, x)
	if m, gotCode := impl.SortOf(ctx, x); m != n || gotCode != code {
		t.Errorf("SortOf of %s = %d, %d, want %d, %d", said(ctx, x), m, gotCode, n, code)
	}
	for _, y := range append(types, found, normal) {
		if got, want := impl.CheckType(ctx, x, y), wantCheck(ctx, x, y); got != want {
			t.Errorf("CheckType of %s and %s = %d, want %d", said(ctx, x), textOrZero(y), got, want)
		}
	}
}

func checkTyped(t *testing.T, what string, got impl.Term, code int, want impl.Term, wantCode int) {
	t.Helper()
	if code != wantCode || !equalTerm(got, want) {
		t.Errorf("%s = %s, %d, want %s, %d", what, textOrZero(got), code, textOrZero(want), wantCode)
	}
}

func parseAll(t *testing.T, texts []string) []impl.Term {
	t.Helper()
	var list []impl.Term
	for _, text := range texts {
		list = append(list, parse(t, text))
	}
	return list
}

// typingCase has a term and its type or, if that is a short word, the code.
type typingCase struct {
	ctx  []string
	text string
	want string
}

func (c typingCase) code() int {
	switch c.want {
	case "bad":
		return impl.TypeBad
	case "open":
		return impl.TypeOpen
	case "invalid":
		return impl.TypeInvalid
	}
	return impl.TypeOk
}

func checkTypingCases(t *testing.T, cases []typingCase) {
	t.Helper()
	for _, c := range cases {
		ctx, x := parseAll(t, c.ctx), parse(t, c.text)
		var want impl.Term
		if c.code() == impl.TypeOk {
			want = parse(t, c.want)
		}
		got, code := impl.InferType(ctx, x)
		checkTyped(t, "InferType of "+said(ctx, x), got, code, want, c.code())
		checkTyping(t, ctx, x, nat(), sort(0), x)
	}
}

// slow is the text of a closed type that HeadNormal and Normalize reduce to
// the closed normal type x of the given level, with the given number of steps,
// at most 201.
func slow(t *testing.T, steps int, x string, level int) string {
	t.Helper()
	return slowTerm(t, steps, x, fmt.Sprint("*", level))
}

// slowTerm is the same for a term x of the closed type is.
func slowTerm(t *testing.T, steps int, x, is string) string {
	t.Helper()
	recursion := func(z, step, number string) string {
		return "<[N]" + is + "," + z + ",[N][" + is + "]" + step + "," + number + ">"
	}
	text, rest := x, steps
	if rest >= 176 {
		text = recursion(text, recursion("#0", "#0", "#1"), "++++++++++0")
		rest -= 176
	}
	for rest >= 4 {
		n := min(8, (rest-1)/3)
		text = recursion(text, "#0", strings.Repeat("+", n)+"0")
		rest -= 3*n + 1
	}
	for range rest {
		text = "@<[N]" + is + ",!0," + text + ">"
	}
	term, fuel := parse(t, text), steps
	if steps == impl.MaxFuel+1 {
		term, _ = impl.StepTerm(term)
		fuel--
	}
	head, code := impl.HeadNormal(term, fuel)
	if n, _ := impl.ReduceSteps(term, fuel); n != fuel || code != impl.NormOk || textOf(head) != x {
		t.Fatalf("the test is wrong: %s does not need %d steps", text, steps)
	}
	if _, code := impl.HeadNormal(term, fuel-1); fuel > 0 && code != impl.NormFuel {
		t.Fatalf("the test is wrong: %s needs less than %d steps", text, steps)
	}
	return text
}

// deepVar is the text of a type in a context of one type, which it mentions
// inside of 19 binders. If it is moved by 2 or more, it is not valid.
func deepVar() string {
	return chain("(N>", 19, "#19", ")")
}

// late is the text of a type that is not known to be convertible to `N`. If
// #0 has this type, it is not decided whether +#0 has a type.
func late(t *testing.T) string { return slow(t, 201, "N", 0) }

// chain writes a text several times before another one, and one as often
// after it.
func chain(before string, times int, inner, after string) string {
	return strings.Repeat(before, times) + inner + strings.Repeat(after, times)
}

func TestTypesOfTermVar(t *testing.T) {
	checkTypingCases(t, []typingCase{
		{[]string{"N"}, "#0", "N"}, {[]string{"N", "{N,#0,0}"}, "#0", "{N,#1,0}"}, {[]string{"N", "{N,#0,0}"}, "#1", "N"},
		{[]string{"*0", "#0", "(#1>#2)"}, "#0", "(#2>#3)"}, {[]string{"*0", "#0", "(#1>#2)"}, "#1", "#2"}, {[]string{"*0", "#0", "(#1>#2)"}, "#2", "*0"},
		{[]string{"*0", deepVar()}, "#0", strings.Replace(deepVar(), "19", "20", 1)}, {[]string{"(*0>*1)", "(*0*(#1 #0))"}, "#0", "(*0*(#2 #0))"},
		{nil, "#0", "bad"}, {nil, "#20", "bad"}, {[]string{"N"}, "#1", "bad"}, {[]string{"N", "N"}, "#2", "bad"}, {[]string{"N"}, "#20", "bad"}, {[]string{"0"}, "#0", "bad"}, {[]string{"*0", deepVar(), "N"}, "#3", "bad"},
		{[]string{"*0", deepVar(), "N"}, "#1", "open"}, {[]string{"*0", deepVar()}, "[N]#1", "open"}, {[]string{"*0", deepVar(), "N"}, "#0", "N"}, {[]string{chain("(N>", 21, "N", ")")}, "#0", "open"},
	})
}

func TestTypesOfTermSort(t *testing.T) {
	checkTypingCases(t, []typingCase{
		{nil, "*0", "*1"}, {nil, "*1", "*2"}, {nil, "*2", "*3"}, {[]string{"N", "*2"}, "*1", "*2"},
		{nil, "*3", "bad"}, {[]string{"*2"}, "*3", "bad"}, {[]string{"*3"}, "*0", "bad"}, {[]string{"+" + late(t)}, "*0", "bad"}, {[]string{late(t), "{N,#0,#0}"}, "*0", "open"},
	})
}

func TestTypesOfTermPi(t *testing.T) {
	number := []string{late(t)}
	checkTypingCases(t, []typingCase{
		{nil, "(N>N)", "*0"}, {nil, "(N>*1)", "*2"}, {nil, "(*2>N)", "*3"}, {nil, "(*0>#0)", "*1"}, {nil, "(*0>(#0>#1))", "*1"}, {nil, "(*1>#0)", "*2"}, {nil, "(*0>*0)", "*1"}, {nil, "(*0>*2)", "*3"},
		{[]string{"*0"}, "(#0>{#1,#0,#0})", "*0"}, {nil, "(([*1]#0 *0)>N)", "*1"}, {[]string{"([*2]#0 *1)"}, "(#0>#1)", "*1"}, {[]string{"(N>*0)"}, "(N>(#1 #0))", "*0"},
		{nil, "(0>N)", "bad"}, {nil, "(N>0)", "bad"}, {nil, "(N>#0)", "bad"}, {nil, "(*3>N)", "bad"}, {nil, "(N>*3)", "bad"}, {nil, "(#0>N)", "bad"}, {nil, "(N>#1)", "bad"}, {nil, "([N]N>N)", "bad"}, {[]string{"N"}, "(#0>N)", "bad"}, {[]string{"N"}, "(N>{N,#0,#2})", "bad"},
		{number, "(+#0>N)", "open"}, {number, "(N>+#1)", "open"}, {[]string{slow(t, 201, "*0", 1)}, "(#0>N)", "open"}, {nil, chain("(N>", 21, "N", ")"), "open"}, {nil, chain("(N>", 20, "N", ")"), "*0"},
	})
}

func TestTypesOfTermLam(t *testing.T) {
	number := []string{late(t)}
	plus := "[N][N]<[N]N,#1,[N][N]+#0,#0>"
	checkTypingCases(t, []typingCase{
		{nil, "[N]#0", "(N>N)"}, {nil, "[N]+#0", "(N>N)"}, {nil, "[*0][#0]#0", "(*0>(#0>#1))"}, {nil, "[*2]#0", "(*2>*2)"}, {nil, "[N]*1", "(N>*2)"}, {nil, "[([*1]#0 *0)]#0", "(([*1]#0 *0)>([*1]#0 *0))"},
		{[]string{"*0"}, "[#0][(#1>#2)]#1", "(#0>((#1>#2)>#2))"}, {[]string{"*0"}, "[#0]!#0", "(#0>{#1,#0,#0})"}, {nil, plus, "(N>(N>([N]N #0)))"}, {[]string{"N"}, "[{N,#0,0}]#0", "({N,#0,0}>{N,#1,0})"},
		{nil, "[0]0", "bad"}, {nil, "[*3]0", "bad"}, {nil, "[N]#1", "bad"}, {nil, "[N]*3", "bad"}, {nil, "[N]+N", "bad"}, {nil, "[N]*2", "bad"}, {nil, "[N][N]*2", "bad"}, {nil, "[#0]0", "bad"}, {[]string{"N"}, "[#0]0", "bad"},
		{number, "[+#0]0", "open"}, {number, "[N]+#1", "open"}, {nil, chain("[N]", 21, "0", ""), "open"}, {nil, chain("[N]", 20, "0", ""), chain("(N>", 20, "N", ")")},
	})
}

func TestTypesOfTermApp(t *testing.T) {
	number := []string{late(t)}
	plus := "[N][N]<[N]N,#1,[N][N]+#0,#0>"
	checkTypingCases(t, []typingCase{
		{nil, "([N]#0 0)", "N"}, {nil, "([*0][#0]#0 N)", "(N>N)"}, {[]string{"(N>N)"}, "(#0 (#0 0))", "N"}, {[]string{"(*0>(#0>#1))"}, "(#0 N)", "(N>N)"}, {[]string{"(N>{N,#0,0})", "N"}, "(#1 +#0)", "{N,+#0,0}"},
		{nil, "(([*0][#0]#0 N) 0)", "N"}, {[]string{"([*0](#0>#1) N)"}, "(#0 0)", "N"}, {[]string{"([*0]#0 N)"}, "([N]+#0 #0)", "N"}, {[]string{"N"}, "([([*0]#0 N)]#0 #0)", "([*0]#0 N)"}, {nil, "((" + plus + " 0) 0)", "([N]N 0)"},
		{nil, "(0 0)", "bad"}, {nil, "(N 0)", "bad"}, {nil, "([N]#0 N)", "bad"}, {nil, "([N]#0 *3)", "bad"}, {nil, "(*3 0)", "bad"}, {nil, "([*0]#0 0)", "bad"}, {nil, "([*0]#0 *0)", "bad"}, {nil, "((N>N) 0)", "bad"}, {nil, "(|(N*N),0,0| 0)", "bad"}, {nil, "([*1]#0 N)", "bad"},
		{number, "([N]#0 #0)", "open"}, {number, "([N]0 +#0)", "open"}, {[]string{slow(t, 201, "(N>N)", 0)}, "(#0 0)", "open"}, {[]string{slow(t, 200, "(N>N)", 0)}, "(#0 0)", "N"},
	})
}

func TestTypesOfTermNat(t *testing.T) {
	checkTypingCases(t, []typingCase{{nil, "N", "*0"}, {[]string{"*2", "#0"}, "N", "*0"}, {[]string{"0"}, "N", "bad"}, {[]string{late(t), "{N,#0,#0}"}, "N", "open"}})
}

func TestTypesOfTermZero(t *testing.T) {
	checkTypingCases(t, []typingCase{{nil, "0", "N"}, {[]string{"*2", "#0"}, "0", "N"}, {[]string{"N", "#0"}, "0", "bad"}, {[]string{late(t), "{N,#0,#0}"}, "0", "open"}})
}

func TestTypesOfTermSucc(t *testing.T) {
	number := []string{late(t)}
	checkTypingCases(t, []typingCase{
		{nil, "+0", "N"}, {[]string{"N"}, "+#0", "N"}, {[]string{"([*0]#0 N)"}, "++#0", "N"}, {nil, "+([N]#0 0)", "N"}, {[]string{slow(t, 200, "N", 0)}, "+#0", "N"},
		{nil, "+N", "bad"}, {nil, "+*3", "bad"}, {nil, "+#0", "bad"}, {nil, "+!0", "bad"}, {nil, "++[N]#0", "bad"}, {[]string{"*0", "#0"}, "+#0", "bad"},
		{number, "+#0", "open"}, {number, "++#0", "open"},
	})
}

func TestTypesOfTermElim(t *testing.T) {
	number := []string{late(t)}
	checkTypingCases(t, []typingCase{
		{nil, "<[N]N,0,[N][N]#1,++0>", "([N]N ++0)"}, {[]string{"N"}, "<[N]N,#0,[N][N]+#0,#0>", "([N]N #0)"}, {nil, "<[N]*0,N,[N][*0](N>#1),+0>", "([N]*0 +0)"}, {[]string{"N"}, "<[N]{N,#0,#0},!0,[N][{N,#0,#0}]!+#1,#0>", "([N]{N,#0,#0} #0)"},
		{[]string{"(N>*0)", "(#0 0)", "(N>((#2 #0)>(#3 +#1)))"}, "<#2,#1,#0,+0>", "(#2 +0)"}, {[]string{"*0", "#0", "(#1>#2)"}, "[N]<[N]#4,#2,[N][#4](#3 #0),#0>", "(N>([N]#4 #0))"},
		// A type that is only convertible to the required one.
		{nil, "<[([*0]#0 N)]N,0,[N][N]#0,0>", "([([*0]#0 N)]N 0)"}, {[]string{"(N>([N]*0 0))", "(#0 0)", "(N>((#2 #0)>(#3 +#1)))"}, "<#2,#1,#0,0>", "(#2 0)"}, {[]string{"([*1](N>#1) *0)", "(#0 0)", "(N>((#2 #0)>(#3 +#1)))"}, "<#2,#1,#0,0>", "(#2 0)"},
		{[]string{"([*0]#0 N)"}, "<[N]N,#0,[([*0]#0 N)][N]#1,#0>", "([N]N #0)"}, {nil, "<[N]N,0,[([*0]#0 N)][([N]N #0)]#0,0>", "([N]N 0)"},
		{nil, "<N,0,[N][N]#1,0>", "bad"}, {nil, "<*3,0,[N][N]#1,0>", "bad"}, {nil, "<[*0]N,0,[N][N]#1,0>", "bad"}, {nil, "<[N]0,0,[N][N]#1,0>", "bad"}, {nil, "<[N]!0,0,[N][N]#1,0>", "bad"},
		{nil, "<[N]N,N,[N][N]#1,0>", "bad"}, {nil, "<[N]N,*3,[N][N]#1,0>", "bad"}, {nil, "<[N]N,0,[N]#0,0>", "bad"}, {nil, "<[N]N,0,*3,0>", "bad"}, {nil, "<[N]N,0,[N][*0]0,0>", "bad"}, {nil, "<[N]N,0,[N][N]N,0>", "bad"}, {nil, "<[N]N,0,[N][N]#1,N>", "bad"}, {nil, "<[N]N,0,[N][N]#1,*3>", "bad"},
		{nil, "<[N]{N,#0,0},!0,[N][{N,#0,0}]!+#1,0>", "bad"}, {nil, "<[N]{N,#0,#0},!+0,[N][{N,#0,#0}]!+#1,0>", "bad"}, {nil, "<[N]{N,#0,#0},!0,[N][{N,#0,#0}]!#1,0>", "bad"}, {nil, "<[N]{N,#0,#0},!0,[N][{N,#0,#0}]#0,0>", "bad"}, {[]string{"(N>*0)", "(#0 0)", "(N>((#2 #0)>(#3 #1)))"}, "<#2,#1,#0,+0>", "bad"}, {[]string{"(N>*0)", "(#0 0)", "(N>((#2 +#0)>(#3 +#1)))"}, "<#2,#1,#0,+0>", "bad"},
		{number, "<[N]N,#0,[N][N]0,0>", "open"}, {number, "<[N]N,0,[N][N]0,#0>", "open"}, {number, "<[N]N,0,[N][N]#2,0>", "open"}, {nil, "<[" + late(t) + "]N,0,[N][N]#0,0>", "open"}, {[]string{"(N>" + slow(t, 201, "*0", 1) + ")"}, "<#0,0,0,0>", "open"}, {[]string{slow(t, 201, "(N>*0)", 1)}, "<#0,0,0,0>", "open"},
	})
}

func TestTypesOfTermId(t *testing.T) {
	number := []string{late(t)}
	checkTypingCases(t, []typingCase{
		{nil, "{N,0,+0}", "*0"}, {nil, "{*0,N,(N>N)}", "*1"}, {nil, "{*1,*0,*0}", "*2"}, {nil, "{(*0>*0),[*0]#0,[*0]N}", "*1"}, {nil, "{{N,0,0},!0,!0}", "*0"}, {[]string{"*0", "#0", "#1"}, "{#2,#0,#1}", "*0"}, {nil, "{([*0]#0 N),0,0}", "*0"}, {[]string{"([*0]#0 N)"}, "{N,#0,0}", "*0"}, {nil, "{*2,*1,*0}", "bad"},
		{nil, "{0,0,0}", "bad"}, {nil, "{*3,*2,*2}", "bad"}, {nil, "{N,N,0}", "bad"}, {nil, "{N,0,N}", "bad"}, {nil, "{N,*3,0}", "bad"}, {nil, "{N,0,*3}", "bad"}, {nil, "{N,!0,!0}", "bad"}, {nil, "{*0,*0,N}", "bad"}, {nil, "{*0,N,0}", "bad"}, {nil, "{#0,0,0}", "bad"},
		{number, "{N,#0,0}", "open"}, {number, "{N,0,#0}", "open"}, {number, "{+#0,0,0}", "open"}, {[]string{slow(t, 201, "*0", 1), "#0"}, "0", "open"}, {nil, "{" + slow(t, 200, "N", 0) + ",0,0}", "*0"}, {nil, "{" + late(t) + ",0,0}", "open"},
	})
}

func TestTypesOfTermRefl(t *testing.T) {
	number := []string{late(t)}
	checkTypingCases(t, []typingCase{
		{nil, "!0", "{N,0,0}"}, {[]string{"N"}, "!#0", "{N,#0,#0}"}, {nil, "!N", "{*0,N,N}"}, {nil, "!*1", "{*2,*1,*1}"}, {nil, "!!0", "{{N,0,0},!0,!0}"}, {nil, "!([N]#0 0)", "{N,([N]#0 0),([N]#0 0)}"}, {nil, "![N]#0", "{(N>N),[N]#0,[N]#0}"}, {[]string{"([*0]#0 N)"}, "!#0", "{([*0]#0 N),#0,#0}"},
		{nil, "!*2", "bad"}, {nil, "!*3", "bad"}, {nil, "!(*2>N)", "bad"}, {nil, "!#0", "bad"}, {nil, "!+N", "bad"}, {nil, "![N]*2", "bad"}, {nil, "!!*2", "bad"},
		{number, "!+#0", "open"}, {number, "!#0", "{" + late(t) + ",#0,#0}"}, {[]string{"(N>(N>N))"}, chain("[N]", 18, "!#18", ""), "open"}, {[]string{"(N>(N>N))"}, chain("[N]", 17, "!#17", ""), chain("(N>", 17, "{(N>(N>N)),#17,#17}", ")")}, {[]string{"*0", deepVar(), "N"}, "!#1", "open"},
	})
}

func TestTypesOfTermMove(t *testing.T) {
	number := []string{late(t)}
	equal := []string{"N", "{N,#0,+0}"}
	checkTypingCases(t, []typingCase{
		{equal, "@<[N]N,#0,#1>", "([N]N +0)"}, {equal, "@<[N]{N,#0,#2},#0,!#1>", "([N]{N,#0,#2} +0)"}, {equal, "@<[N]{N,#2,#0},#0,!#1>", "([N]{N,#2,#0} +0)"}, {nil, "@<[N]N,!0,++0>", "([N]N 0)"}, {[]string{"{*0,N,(N>N)}", "N"}, "@<[*0]#0,#1,#0>", "([*0]#0 (N>N))"}, {[]string{"*0", "#0", "#1", "{#2,#1,#0}", "(#3>*1)", "(#0 #3)"}, "@<#1,#2,#0>", "(#1 #3)"},
		// A type that is only convertible to the required one.
		{[]string{"{([*0]#0 N),0,+0}"}, "@<[N]N,#0,0>", "([N]N +0)"}, {equal, "@<[([*0]#0 N)]N,#0,#1>", "([([*0]#0 N)]N +0)"}, {[]string{"([N]{N,#0,+0} 0)"}, "@<[N]N,#0,0>", "([N]N +0)"}, {[]string{"{N,0,+0}", "(N>([N]*0 0))", "(#0 0)"}, "@<#1,#2,#0>", "(#1 +0)"}, {[]string{"{N,0,([N]#0 +0)}", "(N>*0)", "(#0 0)"}, "@<#1,#2,#0>", "(#1 ([N]#0 +0))"},
		{equal, "@<[N]{N,#0,+0},#0,!#1>", "bad"}, {equal, "@<[N]{N,+#0,++0},#0,!++0>", "bad"}, {equal, "@<[N]N,#1,#1>", "bad"}, {equal, "@<[N]N,*3,#1>", "bad"}, {equal, "@<N,#0,#1>", "bad"}, {equal, "@<*3,#0,#1>", "bad"}, {equal, "@<[*0]N,#0,#1>", "bad"}, {equal, "@<[N]0,#0,#1>", "bad"}, {equal, "@<[N]N,#0,N>", "bad"}, {equal, "@<[N]N,#0,*3>", "bad"}, {[]string{"{*0,N,(N>N)}", "(N>N)"}, "@<[*0]#0,#1,#0>", "bad"}, {[]string{"{*0,N,N}"}, "@<[N]N,#0,0>", "bad"},
		{number, "@<[N]N,!+#0,0>", "open"}, {number, "@<[N]N,!#0,0>", "open"}, {number, "@<[N]N,!0,#0>", "open"}, {number, "@<[N]+#1,!0,0>", "open"}, {nil, "@<[" + late(t) + "]N,!0,0>", "open"}, {[]string{slow(t, 201, "{N,0,0}", 0)}, "@<[N]N,#0,0>", "open"}, {[]string{slow(t, 200, "{N,0,0}", 0)}, "@<[N]N,#0,0>", "([N]N 0)"}, {[]string{"(N>" + slow(t, 201, "*0", 1) + ")"}, "@<#0,!0,0>", "open"},
	})
}

func TestTypesOfTermSigma(t *testing.T) {
	number := []string{late(t)}
	checkTypingCases(t, []typingCase{
		{nil, "(N*N)", "*0"}, {nil, "(N**1)", "*2"}, {nil, "(*2*N)", "*3"}, {nil, "(*0*#0)", "*1"}, {nil, "(N*{N,#0,0})", "*0"}, {[]string{"*0"}, "(#0*{#1,#0,#0})", "*0"}, {nil, "(([*1]#0 *0)*N)", "*1"},
		{nil, "(0*N)", "bad"}, {nil, "(N*0)", "bad"}, {nil, "(N*#0)", "bad"}, {nil, "(*3*N)", "bad"}, {nil, "(N**3)", "bad"}, {nil, "(N*#1)", "bad"},
		{number, "(+#0*N)", "open"}, {number, "(N*+#1)", "open"}, {[]string{slow(t, 201, "*0", 1)}, "(#0*N)", "open"}, {nil, chain("(N*", 21, "N", ")"), "open"}, {nil, chain("(N*", 20, "N", ")"), "*0"},
	})
}

func TestTypesOfTermPair(t *testing.T) {
	number := []string{late(t)}
	checkTypingCases(t, []typingCase{
		{nil, "|(N*N),0,+0|", "(N*N)"}, {nil, "|(N*{N,#0,0}),0,!0|", "(N*{N,#0,0})"}, {nil, "|(*0*#0),N,0|", "(*0*#0)"}, {[]string{"*0", "#0"}, "|(*0*#0),#1,#0|", "(*0*#0)"}, {[]string{"N"}, "|(N*{N,#0,#1}),#0,!#0|", "(N*{N,#0,#1})"},
		{nil, "|([*0](#0*N) N),0,0|", "([*0](#0*N) N)"}, {[]string{"([*0]#0 N)"}, "|(N*N),#0,#0|", "(N*N)"}, {nil, "|(N*{N,#0,0}),([N]#0 0),!0|", "(N*{N,#0,0})"}, {nil, "|" + slow(t, 200, "(N*N)", 0) + ",0,0|", slow(t, 200, "(N*N)", 0)},
		{nil, "|(N*{N,#0,0}),+0,!0|", "bad"}, {nil, "|N,0,0|", "bad"}, {nil, "|(N>N),0,0|", "bad"}, {nil, "|*3,0,0|", "bad"}, {nil, "|0,0,0|", "bad"}, {nil, "|(N*0),0,0|", "bad"}, {nil, "|(*2**2),*1,*1|", "(*2**2)"}, {nil, "|(N**3),0,0|", "bad"}, {nil, "|(N*N),N,0|", "bad"}, {nil, "|(N*N),0,N|", "bad"}, {nil, "|(N*N),*3,0|", "bad"}, {nil, "|(N*N),0,*3|", "bad"}, {nil, "|(*0*#0),(N>N),0|", "bad"}, {nil, "||(N*N),0,0|,0,0|", "bad"},
		{number, "|(N*N),#0,0|", "open"}, {number, "|(N*N),0,#0|", "open"}, {number, "|(N*N),+#0,0|", "open"}, {number, "|+#0,0,0|", "open"}, {nil, "|" + slow(t, 201, "(N*N)", 0) + ",0,0|", "open"},
	})
}

func TestTypesOfTermFst(t *testing.T) {
	number := []string{late(t)}
	checkTypingCases(t, []typingCase{
		{[]string{"(N*N)"}, "^#0", "N"}, {nil, "^|(*0*#0),N,0|", "*0"}, {[]string{"*0", "(#0*#1)"}, "^#0", "#1"}, {[]string{"([*0](#0*N) N)"}, "^#0", "N"}, {[]string{"((N*N)*N)"}, "^^#0", "N"}, {[]string{slow(t, 200, "(N*N)", 0)}, "^#0", "N"},
		{nil, "^0", "bad"}, {nil, "^(N*N)", "bad"}, {nil, "^*3", "bad"}, {nil, "^#0", "bad"}, {[]string{"(N>N)"}, "^#0", "bad"}, {[]string{"(N*N)"}, "^^#0", "bad"},
		{number, "^#0", "open"}, {number, "^+#0", "open"}, {[]string{slow(t, 201, "(N*N)", 0)}, "^#0", "open"},
	})
}

func TestTypesOfTermSnd(t *testing.T) {
	number := []string{late(t)}
	checkTypingCases(t, []typingCase{
		{[]string{"(N*N)"}, "_#0", "N"}, {[]string{"(N*{N,#0,0})"}, "_#0", "{N,^#0,0}"}, {nil, "_|(*0*#0),N,0|", "^|(*0*#0),N,0|"}, {[]string{"*0", "(#0*{#1,#0,#0})"}, "_#0", "{#1,^#0,^#0}"}, {[]string{"([*0](N*#1) N)"}, "_#0", "N"}, {[]string{"(N*(N*{N,#0,#1}))"}, "__#0", "{N,^_#0,^#0}"}, {[]string{slow(t, 200, "(N*N)", 0)}, "_#0", "N"},
		{nil, "_0", "bad"}, {nil, "_(N*N)", "bad"}, {nil, "_*3", "bad"}, {nil, "_#0", "bad"}, {[]string{"(N>N)"}, "_#0", "bad"}, {[]string{"(N*N)"}, "__#0", "bad"},
		{number, "_+#0", "open"}, {[]string{slow(t, 201, "(N*N)", 0)}, "_#0", "open"},
	})
}

// rulesOf lists well-typed closed terms with two or more operands, and the
// order in which the rule of their kind treats the operands.
func rulesOf() map[string][]int {
	return map[string][]int{
		"(N>N)": {0, 1}, "[N]0": {0, 1}, "([N]0 0)": {0, 1}, "<[N]N,0,[N][N]0,0>": {0, 1, 2, 3}, "{N,0,0}": {0, 1, 2}, "@<[N]N,!0,0>": {1, 0, 2}, "(N*N)": {0, 1}, "|(N*N),0,0|": {0, 1, 2},
	}
}

// The first code is that of the operand that is treated first.
func TestOrderOfOperands(t *testing.T) {
	ctx := parseAll(t, []string{late(t)})
	for text, order := range rulesOf() {
		x := parse(t, text)
		if _, code := impl.InferType(ctx, x); code != impl.TypeOk {
			t.Fatalf("the test is wrong: %s has no type", text)
		}
		for first, i := range order {
			for later, k := range order {
				if first == later {
					continue
				}
				for _, bad := range []string{"*3", "|(N*N),0,0|", "+N", "#20"} {
					undecided := parse(t, "+#0")
					if binds(x.Kind, k) {
						undecided = parse(t, "+#1")
					}
					y := copyTerm(x)
					y.Kids[i], y.Kids[k] = parse(t, bad), undecided
					want := impl.TypeBad
					if later < first {
						want = impl.TypeOpen
					}
					got, code := impl.InferType(ctx, y)
					checkTyped(t, "InferType of "+said(ctx, y), got, code, impl.Term{}, want)
					checkTyping(t, ctx, y, nat())
				}
			}
		}
	}
}

// A rule also has an order for what it asks of one operand, and that is before
// what it asks of the next one.
func TestOrderWithinARule(t *testing.T) {
	number, wide := []string{late(t)}, textOf(wideNumber(t, 200))
	var cases []typingCase
	for _, c := range [][]string{
		// The domain of a family, its result, and the operands after it.
		{"(" + late(t) + ">N)", "<#0,0,0,0>", "open"}, {"(" + slow(t, 200, "N", 0) + ">N)", "<#0,0,0,0>", "bad"}, {"(*0>" + slow(t, 201, "*0", 1) + ")", "<#0,0,0,0>", "bad"}, {"(N>" + slow(t, 201, "*0", 1) + ")", "<#0,*3,*3,*3>", "open"}, {"(N>" + slow(t, 200, "*0", 1) + ")", "<#0,*3,*3,*3>", "bad"},
		{"(" + late(t) + ">N)", "@<#0,!0,*3>", "open"}, {"(N>" + slow(t, 201, "*0", 1) + ")", "@<#0,!0,*3>", "open"}, {"(N>N)", "@<#0,!0,+*3>", "bad"}, {slow(t, 201, "{N,0,0}", 0), "@<*3,#0,*3>", "open"}, {slow(t, 201, "(N>N)", 0), "(#0 *3)", "open"},
		{slow(t, 201, "(N*N)", 0), "|" + slow(t, 201, "(N*N)", 0) + ",*3,*3|", "open"}, {slow(t, 201, "*0", 1), "|#0,*3,*3|", "open"}, {late(t), "|N,+#0,+#0|", "bad"}, {late(t), "|(N*N),#0,*3|", "open"}, {late(t), "|(N*N),*3,#0|", "bad"}, {late(t), "{N,#0,*3}", "open"}, {late(t), "{N,*3,#0}", "bad"},
		// A type that is not valid is only compared with the type of an operand.
		{"N", "|(N*{N,#0,#0})," + wide + ",*3|", "bad"}, {"N", "|(N*{N,#0,#0})," + wide + ",0|", "open"}, {"(N>{N,#0,#0})", "(#0 " + wide + ")", "open"}, {"(*0>{*0,#0,#0})", "(#0 " + wide + ")", "bad"}, {"N", "!" + wide, "open"},
	} {
		cases = append(cases, typingCase{c[:1], c[1], c[2]})
	}
	cases = append(cases,
		// A type of a level is one before its scope is entered.
		typingCase{nil, chain("(N>", 20, "(0>N)", ")"), "bad"}, typingCase{nil, chain("(N>", 20, "(N>0)", ")"), "open"}, typingCase{number, chain("(N>", 19, "(+#19>0)", ")"), "open"}, typingCase{nil, chain("[N]", 20, "[*3]0", ""), "bad"}, typingCase{nil, chain("[N]", 20, "[N]*3", ""), "open"}, typingCase{nil, chain("(N*", 20, "(*3*N)", ")"), "bad"}, typingCase{nil, chain("(N*", 20, "(N**3)", ")"), "open"},
	)
	checkTypingCases(t, cases)
}

// Each rule that needs a HeadNormal or a Convertible, with the last number of
// steps that it may take and the first one that it may not.
func TestStepsOfTheRules(t *testing.T) {
	for _, c := range []struct {
		x     string // S is reduced to it
		level int
		ctx   []string
		text  string
		want  string
	}{
		// HeadNormal of the type of a type.
		{"*0", 1, []string{"S", "#0"}, "0", "N"}, {"*0", 1, []string{"S"}, "(#0>N)", "*0"}, {"*0", 1, []string{"S"}, "(N>#1)", "*0"}, {"*0", 1, []string{"S"}, "[#0]0", "(#0>N)"}, {"*0", 1, []string{"S"}, "(#0*N)", "*0"}, {"*0", 1, []string{"S"}, "(N*#1)", "*0"}, {"*0", 1, []string{"S"}, "{#0,0,0}", "bad"}, {"*0", 1, []string{"S"}, "|#0,0,0|", "bad"},
		// HeadNormal of a type with parts.
		{"(N>N)", 0, []string{"S"}, "(#0 0)", "N"}, {"{N,0,0}", 0, []string{"S"}, "@<[N]N,#0,0>", "([N]N 0)"}, {"(N*N)", 0, []string{"S"}, "^#0", "N"}, {"(N*N)", 0, []string{"S"}, "_#0", "N"}, {"(N*N)", 0, nil, "|S,0,0|", "S"}, {"(N*N)", 0, []string{"S"}, "|S,^#0,_#0|", "S"},
		// HeadNormal of the type of a family, and of its result.
		{"(N>*0)", 1, []string{"S", "(#0 0)", "(N>((#2 #0)>(#3 +#1)))"}, "<#2,#1,#0,+0>", "(#2 +0)"}, {"(N>*0)", 1, []string{"S", "(#0 0)"}, "@<#1,!0,#0>", "(#1 0)"}, {"*0", 1, []string{"(N>S)", "(#0 0)", "(N>((#2 #0)>(#3 +#1)))"}, "<#2,#1,#0,+0>", "(#2 +0)"}, {"*0", 1, []string{"(N>S)", "(#0 0)"}, "@<#1,!0,#0>", "(#1 0)"},
		// Convertible: an argument, a number, and a family.
		{"N", 0, []string{"S"}, "([N]0 #0)", "N"}, {"N", 0, nil, "([S]0 0)", "N"}, {"N", 0, []string{"S"}, "+#0", "N"}, {"N", 0, nil, "<[S]N,0,[N][N]#0,0>", "([S]N 0)"}, {"N", 0, nil, "@<[S]N,!0,0>", "([S]N 0)"}, {"N", 0, []string{"S"}, "@<[N]N,!#0,0>", "([N]N #0)"},
		// Convertible: the operands of a recursion.
		{"N", 0, []string{"S"}, "<[N]N,#0,[N][N]#0,0>", "([N]N 0)"}, {"N", 0, []string{"S"}, "<[N]N,0,[N][N]#2,0>", "([N]N 0)"}, {"N", 0, []string{"S"}, "<[N]N,0,[S][N]#0,0>", "([N]N 0)"}, {"N", 0, []string{"S"}, "<[N]N,0,[N][N]#0,#0>", "([N]N #0)"},
		// Convertible: the sides of an equality, what is moved, and the parts of a pair.
		{"N", 0, []string{"S"}, "{N,#0,0}", "*0"}, {"N", 0, []string{"S"}, "{N,0,#0}", "*0"}, {"N", 0, nil, "{S,0,0}", "*0"}, {"N", 0, []string{"S"}, "@<[N]N,!0,#0>", "([N]N 0)"}, {"N", 0, []string{"S"}, "|(N*N),#0,0|", "(N*N)"}, {"N", 0, []string{"S"}, "|(N*N),0,#0|", "(N*N)"}, {"N", 0, nil, "|(S*N),0,0|", "(S*N)"},
	} {
		for _, steps := range []int{199, 200, 201} {
			late := slow(t, steps, c.x, c.level)
			one := typingCase{nil, strings.ReplaceAll(c.text, "S", late), strings.ReplaceAll(c.want, "S", late)}
			for _, a := range c.ctx {
				one.ctx = append(one.ctx, strings.ReplaceAll(a, "S", late))
			}
			if steps == 201 {
				one.want = "open"
			}
			checkTypingCases(t, []typingCase{one})
		}
	}
}

func TestStepsOfAType(t *testing.T) {
	for _, steps := range []int{0, 1, 199, 200, 201} {
		number, level := parse(t, slow(t, steps, "N", 0)), parse(t, slow(t, steps, "*0", 1))
		numbers, levels := []impl.Term{number}, []impl.Term{level}
		after := func(wanted int) int {
			if steps <= 200 {
				return wanted
			}
			return impl.TypeOpen
		}
		for _, c := range []struct {
			what string
			code int
			want int
		}{
			{"CheckType of a term", impl.CheckType(numbers, variable(0), nat()), after(impl.TypeOk)}, {"CheckType with the type", impl.CheckType(nil, zero(), number), after(impl.TypeOk)}, {"CheckType with another type", impl.CheckType(numbers, variable(0), sort(0)), after(impl.TypeBad)}, {"CheckType with its own type", impl.CheckType(numbers, variable(0), number), impl.TypeOk},
			{"CheckType with a type of the level", impl.CheckType(levels, zero(), variable(0)), after(impl.TypeBad)}, {"CheckContext of types", impl.CheckContext([]impl.Term{level, variable(0)}), after(impl.TypeOk)}, {"CheckContext", impl.CheckContext(levels), impl.TypeOk},
		} {
			if c.code != c.want {
				t.Errorf("%s = %d with %d steps, want %d", c.what, c.code, steps, c.want)
			}
		}
		if n, code := impl.SortOf(levels, variable(0)); n != 0 || code != after(impl.TypeOk) {
			t.Errorf("SortOf = %d, %d with %d steps", n, code, steps)
		}
		normal, code := impl.InferNormal(numbers, variable(0))
		if steps <= 200 {
			checkTyped(t, "InferNormal", normal, code, nat(), impl.TypeOk)
		} else {
			checkTyped(t, "InferNormal", normal, code, impl.Term{}, impl.TypeOpen)
		}
	}
}

// wideNumber is a closed term with the given number of nodes, whose type is
// `N`, and whose normal term is not far.
func wideNumber(t *testing.T, nodes int) impl.Term {
	t.Helper()
	if nodes <= 11 {
		return succs(nodes-1, zero())
	}
	half := (nodes - 10) / 2
	unused := mk(impl.TermLam, nat(), mk(impl.TermLam, nat(), wideNumber(t, nodes-10-half)))
	return succs(1, mk(impl.TermElim, parse(t, "[N]N"), wideNumber(t, half), unused, zero()))
}

// wideType is a closed type of the level 0 with the given number of nodes,
// which is not 2.
func wideType(t *testing.T, nodes int) impl.Term {
	t.Helper()
	switch nodes {
	case 1:
		return nat()
	case 4:
		return parse(t, "{N,0,0}")
	case 5, 6:
		return mk(impl.TermPi, nat(), wideType(t, nodes-2))
	}
	half := (nodes - 1) / 2
	return mk(impl.TermPi, wideType(t, half), wideType(t, nodes-1-half))
}

// deepType is a closed type of the level 0 with the given depth, and with few
// binders around any part.
func deepType(depth int) impl.Term {
	x := nat()
	for range depth - 1 {
		x = mk(impl.TermPi, x, nat())
	}
	return x
}

// In the texts, W is a closed number and T a closed type, and both have so
// many nodes, or are so deep, that a type that a rule uses is still valid, or
// not.
type sizeCase struct {
	ctx  []string
	text string
	fits int // the greatest number of nodes, or the greatest depth
	want string
}

func checkSizes(t *testing.T, c sizeCase, typeText, numberText func(size int) string) {
	t.Helper()
	for size := c.fits - 3; size <= c.fits+3; size++ {
		filled := func(text string) impl.Term {
			for _, letter := range []string{"T", "W"} {
				if strings.Contains(text, letter) {
					full := map[string]func(int) string{"T": typeText, "W": numberText}[letter](size)
					text = strings.ReplaceAll(text, letter, full)
				}
			}
			x, _ := impl.ParseTerm(text) // the zero value, if there are too many nodes
			return x
		}
		var ctx []impl.Term
		for _, a := range c.ctx {
			ctx = append(ctx, filled(a))
		}
		x, want, code := filled(c.text), filled(c.want), impl.TypeOk
		switch {
		case anyInvalid(append(ctx, x)...):
			code = impl.TypeInvalid
		case size > c.fits:
			code = impl.TypeOpen
		case c.want == "bad":
			code = impl.TypeBad
		}
		if code != impl.TypeOk {
			want = impl.Term{}
		} else if !impl.TermValid(want) {
			t.Fatalf("the test is wrong: %s is not valid with %d", c.want, size)
		}
		got, gotCode := impl.InferType(ctx, x)
		checkTyped(t, fmt.Sprintf("InferType of %s and %s, with a size of %d,", c.ctx, c.text, size), got, gotCode, want, code)
		checkTyping(t, ctx, x)
	}
}

func TestTypesWithTooManyNodes(t *testing.T) {
	for _, c := range []sizeCase{
		{nil, "[T]#0", 199, "(T>T)"}, {nil, "[T]!#0", 198, "(T>{T,#0,#0})"}, {nil, "[T]0", 398, "(T>N)"}, {nil, "[*0]T", 398, "(*0>*0)"}, {[]string{"T"}, "[N]#1", 398, "(N>T)"},
		{nil, "!W", 199, "{N,W,W}"}, {[]string{"T"}, "!#0", 397, "{T,#0,#0}"}, {nil, "!!W", 98, "{{N,W,W},!W,!W}"},
		{[]string{"(N>{N,#0,#0})"}, "(#0 W)", 199, "{N,W,W}"}, {[]string{"(N>{N,+#0,#0})"}, "(#0 W)", 198, "{N,+W,W}"}, {[]string{"(N>{N,0,#0})"}, "(#0 W)", 397, "{N,0,W}"}, {[]string{"(N>T)"}, "(#0 0)", 398, "T"},
		{[]string{"T", "(N>(T>T))"}, "<[N]T,#1,#0,0>", 194, "([N]T 0)"}, {[]string{"T"}, "<[N]T,#0,[N][T]#0,0>", 194, "([N]T 0)"}, {[]string{"T"}, "<[N]T,#0,+0,0>", 194, "bad"},
		{[]string{"T", "{N,W,0}"}, "@<[N]T,#0,#1>", 198, "([N]T 0)"}, {[]string{"N", "{N,W,0}"}, "@<[N]N,#0,#1>", 396, "([N]N 0)"}, {[]string{"T", "{N,0,W}"}, "@<[N]T,#0,#1>", 198, "([N]T W)"}, {[]string{"N", "{N,0,W}"}, "@<[N]N,#0,#1>", 396, "([N]N W)"},
		{[]string{"{N,W,W}"}, "|(N*{N,#0,#0}),W,#0|", 199, "(N*{N,#0,#0})"}, {nil, "|(N*{N,#0,#0}),W,0|", 199, "bad"}, {nil, "|(N*{N,+#0,#0}),W,0|", 198, "bad"}, {nil, "_|(N*{N,#0,#0}),W,!W|", 95, "{N,^|(N*{N,#0,#0}),W,!W|,^|(N*{N,#0,#0}),W,!W|}"}, {[]string{"(N*T)"}, "_#0", 398, "T"}, {[]string{"(T*N)"}, "^#0", 398, "T"},
	} {
		checkSizes(t, c, func(nodes int) string { return textOf(wideType(t, nodes)) }, func(nodes int) string { return textOf(wideNumber(t, nodes)) })
	}
}

func TestTypesThatAreTooDeep(t *testing.T) {
	for _, c := range []sizeCase{
		{[]string{"T"}, "[N]#1", 29, "(N>T)"}, {[]string{"T"}, "!#0", 29, "{T,#0,#0}"}, {[]string{"T"}, "[N][N]#2", 28, "(N>(N>T))"}, {[]string{"(N>{N,0,+#0})"}, "(#0 W)", 28, "{N,0,+W}"}, {[]string{"(N>{N,0,+++++#0})"}, "(#0 W)", 24, "{N,0,+++++W}"},
		{[]string{"T", "(N>(T>T))"}, "<[N]T,#1,#0,0>", 26, "([N]T 0)"}, {[]string{"T"}, "<[N]T,#0,[N][T]#0,0>", 26, "([N]T 0)"}, {nil, "|(N*{N,0,+#0}),W,0|", 28, "bad"}, {[]string{"{N,0,+W}"}, "|(N*{N,0,+#0}),W,#0|", 28, "(N*{N,0,+#0})"}, {nil, "_|(N*{N,+++++#0,0}),W,!0|", 24, "bad"},
	} {
		checkSizes(t, c, func(depth int) string { return textOf(deepType(depth)) }, func(depth int) string { return textOf(succs(depth-1, zero())) })
	}
}

// Types that are moved below binders may have variables that are too great,
// and contexts inside of a term may have too many types.
func TestManyBindersAround(t *testing.T) {
	family := []string{"(N>*0)", "(#0 0)", "(N>((#2 #0)>(#3 +#1)))"}
	recursion := func(binders int, step string) string {
		return chain("[N]", binders, fmt.Sprintf("<#%d,#%d,%s,0>", binders+2, binders+1, step), "")
	}
	for _, c := range []typingCase{
		{family, recursion(15, "#15"), ""}, {family, recursion(16, "#16"), ""}, {family, recursion(17, "#17"), "open"}, {family, recursion(17, "*3"), "bad"}, {family, recursion(17, "0"), "open"}, {family, recursion(16, "0"), "bad"},
		{[]string{"(N>N)", "N"}, chain("[N]", 18, "(#19 #18)", ""), chain("(N>", 18, "N", ")")}, {[]string{"(N>N)", "N"}, chain("[N]", 19, "(#20 #19)", ""), "open"},
		{[]string{"*0", deepVar()}, chain("[N]", 1, "#0", ""), "(N>N)"}, {[]string{"*0", deepVar()}, chain("[N]", 1, "#1", ""), "open"},
		{nil, chain("(N>", 19, "{N,#0,#18}", ")"), "*0"}, {nil, chain("(N>", 20, "{N,#0,#19}", ")"), "*0"}, {nil, chain("(N>", 20, "{N,#0,#20}", ")"), "bad"}, {nil, chain("(N>", 20, "{*3,#0,#20}", ")"), "bad"},
	} {
		ctx, x := parseAll(t, c.ctx), parse(t, c.text)
		if _, code := impl.InferType(ctx, x); code != c.code() {
			t.Errorf("InferType of %s = %d, want %d", said(ctx, x), code, c.code())
		}
		checkTyping(t, ctx, x)
	}
	// 20 types are enough, whichever of them are in the context before.
	for _, kind := range []int{impl.TermPi, impl.TermLam, impl.TermSigma} {
		for types := range 9 {
			for binders := 18 - types; binders <= 22-types; binders++ {
				ctx, x := slices.Repeat([]impl.Term{nat()}, types), nat()
				for range binders {
					x = mk(kind, nat(), x)
				}
				want := impl.TypeOk
				if types+binders > 20 {
					want = impl.TypeOpen
				}
				if _, code := impl.InferType(ctx, x); code != want {
					t.Errorf("InferType of %d types and %d binders of the kind %d = %d, want %d", types, binders, kind, code, want)
				}
				checkTyping(t, ctx, x)
				// What is beside the binders does not count.
				y := mk(impl.TermId, sort(0), nat(), nat())
				checkTyping(t, ctx, mk(impl.TermApp, mk(impl.TermLam, y, x), mk(impl.TermRefl, nat())))
			}
		}
	}
}

// contextCase has the texts of a context and the code of CheckContext.
type contextCase struct {
	types []string
	want  int
}

func TestContexts(t *testing.T) {
	late, equal := late(t), "{N,#0,#0}"
	levels := slow(t, 201, "*0", 1)
	for _, c := range []contextCase{
		{nil, impl.TypeOk}, {[]string{"N"}, impl.TypeOk}, {[]string{"*0", "*1", "*2"}, impl.TypeOk}, {[]string{late}, impl.TypeOk}, {[]string{"N", equal}, impl.TypeOk},
		// Later types depend on earlier ones.
		{[]string{"*0", "#0"}, impl.TypeOk}, {[]string{"*0", "#0", "(#1>#2)"}, impl.TypeOk}, {[]string{"*0", "(#0>*0)", "#1", "(#1 #0)"}, impl.TypeOk}, {[]string{"(N>*0)", "(N>(#1 #0))", "{(#1 0),(#0 0),(#0 0)}"}, impl.TypeOk}, {[]string{"*0", "#0", "{#1,#0,#0}", "{{#2,#1,#1},#0,!#1}"}, impl.TypeOk}, {[]string{"(*0*#0)", "^#0", "{^#1,_#1,#0}"}, impl.TypeOk}, {[]string{"([*1]#0 *0)", "#0"}, impl.TypeOk}, {[]string{"N", "N", "N", "N", "N", "N", "N", "{N,#6,#0}"}, impl.TypeOk},
		// Types that are not types, or no longer.
		{[]string{"0"}, impl.TypeBad}, {[]string{"*3"}, impl.TypeBad}, {[]string{"#0"}, impl.TypeBad}, {[]string{"N", "#0"}, impl.TypeBad}, {[]string{"*0", "#1"}, impl.TypeBad}, {[]string{"*0", "#0", "#0"}, impl.TypeBad}, {[]string{"*0", "#0", "#1", "#1"}, impl.TypeBad}, {[]string{"*0", "#0", "(#1>#1)"}, impl.TypeBad}, {[]string{"N", "[N]N"}, impl.TypeBad}, {[]string{"N", "{N,#0,#1}"}, impl.TypeBad}, {[]string{"N", "N", "N", "N", "N", "N", "N", "{N,#7,#0}"}, impl.TypeBad}, {[]string{"*0", "#0", "N", "{#1,#1,#1}"}, impl.TypeBad},
		// The first code counts.
		{[]string{late, equal}, impl.TypeOpen}, {[]string{late, equal, "0"}, impl.TypeOpen}, {[]string{late, "0", equal}, impl.TypeBad}, {[]string{late, "N", "{N,#1,#1}"}, impl.TypeOpen}, {[]string{levels, "#0", "*3"}, impl.TypeOpen}, {[]string{levels, "*3", "#0"}, impl.TypeBad}, {[]string{chain("(N>", 21, "N", ")")}, impl.TypeOpen}, {[]string{chain("(N>", 20, "N", ")"), "N"}, impl.TypeOk}, {[]string{"N", chain("(N>", 20, "N", ")")}, impl.TypeOpen},
	} {
		ctx := parseAll(t, c.types)
		if code := impl.CheckContext(ctx); code != c.want {
			t.Errorf("CheckContext of %s = %d, want %d", c.types, code, c.want)
		}
		for _, x := range []impl.Term{nat(), zero(), variable(0), variable(1), sort(3), parse(t, "+#0"), parse(t, "!#0"), parse(t, "[#0]#0")} {
			checkTyping(t, ctx, x, nat(), sort(0), sort(3), variable(0), mk(impl.TermZero, zero()))
		}
		for i := range ctx {
			checkTyping(t, ctx[:i], ctx[i], sort(0), sort(1))
		}
	}
}

func TestNumberOfTypesOfAContext(t *testing.T) {
	for types := range 12 {
		for _, a := range []string{"N", "*1", "0", "*3", late(t)} {
			ctx := slices.Repeat([]impl.Term{parse(t, a)}, types)
			want := impl.TypeOk
			switch {
			case types > 8:
				want = impl.TypeInvalid
			case types > 0 && (a == "0" || a == "*3"):
				want = impl.TypeBad
			}
			if code := impl.CheckContext(ctx); code != want {
				t.Errorf("CheckContext of %d times %s = %d, want %d", types, a, code, want)
			}
			for n := range 10 {
				checkTyping(t, ctx, variable(n), parse(t, a))
			}
		}
	}
	long := make([]impl.Term, 1<<16)
	if code := impl.CheckContext(long); code != impl.TypeInvalid {
		t.Errorf("CheckContext of a long context = %d", code)
	}
	for _, ctx := range [][]impl.Term{{}, make([]impl.Term, 0, 4)} {
		checkTyping(t, ctx, zero(), nat())
	}
}

func TestCheckingOfTypes(t *testing.T) {
	number := []string{late(t)}
	plus := "[N][N]<[N]N,#1,[N][N]+#0,#0>"
	for _, c := range []struct {
		ctx        []string
		text, kind string
		want       int
	}{
		{nil, "0", "N", impl.TypeOk}, {nil, "0", "([*0]#0 N)", impl.TypeOk}, {nil, "0", "^|(*0*#0),N,0|", impl.TypeOk}, {nil, "<[N]N,0,[N][N]#1,++0>", "N", impl.TypeOk}, {nil, plus, "(N>(N>N))", impl.TypeOk}, {nil, "!+0", "{N,([N]+#0 0),+0}", impl.TypeOk}, {nil, "!0", "{([*0]#0 N),0,0}", impl.TypeOk}, {[]string{"N"}, "!#0", "{N,#0,#0}", impl.TypeOk}, {nil, "N", "*0", impl.TypeOk}, {nil, "*0", "*1", impl.TypeOk}, {nil, "*1", "([*3]*2 *2)", impl.TypeBad}, {nil, "*1", "([N]*2 0)", impl.TypeBad}, {nil, "*1", "*2", impl.TypeOk},
		{nil, "[*0][#0]#0", "(*0>(#0>#1))", impl.TypeOk}, {nil, "[N]#0", "(([*0]#0 N)>N)", impl.TypeOk}, {nil, "|(N*N),0,0|", "([*0](#0*#1) N)", impl.TypeOk}, {nil, "(N>N)", "*0", impl.TypeOk}, {[]string{"*0", "#0", "(#1>#2)"}, "(#0 #1)", "#2", impl.TypeOk}, {[]string{"N", "{N,#0,+0}"}, "@<[N]{N,#0,#2},#0,!#1>", "{N,+0,#1}", impl.TypeOk},
		// Types of other levels, and other types.
		{nil, "N", "*1", impl.TypeBad}, {nil, "(N>*0)", "*0", impl.TypeBad}, {nil, "*0", "*0", impl.TypeBad}, {nil, "0", "*0", impl.TypeBad}, {nil, "0", "(N>N)", impl.TypeBad}, {nil, "[N]#0", "(N>*0)", impl.TypeBad}, {nil, "!0", "{N,0,+0}", impl.TypeBad}, {nil, "[*0][#0]#0", "(*0>(#0>#0))", impl.TypeBad}, {[]string{"N", "{N,#0,+0}"}, "#0", "{N,#1,0}", impl.TypeBad},
		// What is wanted is no type, or has none.
		{nil, "0", "0", impl.TypeBad}, {nil, "0", "[N]N", impl.TypeBad}, {nil, "*2", "*3", impl.TypeBad}, {nil, "0", "*3", impl.TypeBad}, {nil, "0", "#0", impl.TypeBad}, {nil, "0", "+N", impl.TypeBad}, {nil, "0", "([N]N N)", impl.TypeBad}, {nil, "(*2>*2)", "*3", impl.TypeBad}, {[]string{"N"}, "#0", "#0", impl.TypeBad},
		// The code of the type goes before that of the term.
		{number, "*3", "+#0", impl.TypeOpen}, {number, "+#0", "*3", impl.TypeBad}, {number, "+#0", "0", impl.TypeBad}, {number, "*3", "N", impl.TypeBad}, {number, "+#0", "N", impl.TypeOpen}, {number, "#0", "N", impl.TypeOpen}, {number, "#0", late(t), impl.TypeOk}, {number, "#0", "*0", impl.TypeOpen}, {number, "0", late(t), impl.TypeOpen}, {nil, "0", slow(t, 200, "N", 0), impl.TypeOk}, {nil, "*3", late(t), impl.TypeBad}, {nil, "0", chain("(N>", 21, "N", ")"), impl.TypeOpen},
		{[]string{"0"}, "0", "N", impl.TypeBad}, {[]string{late(t), "{N,#0,#0}"}, "*3", "*3", impl.TypeOpen},
	} {
		ctx, x, kind := parseAll(t, c.ctx), parse(t, c.text), parse(t, c.kind)
		if code := impl.CheckType(ctx, x, kind); code != c.want {
			t.Errorf("CheckType of %s and %s = %d, want %d", said(ctx, x), c.kind, code, c.want)
		}
		checkTyping(t, ctx, x, kind)
		checkTyping(t, ctx, kind, x)
	}
}

func TestLevelsAndNormalTypes(t *testing.T) {
	number := []string{late(t)}
	for _, c := range []struct {
		ctx    []string
		text   string
		level  int
		code   int
		normal string // of the type, if there is one
	}{
		{nil, "N", 0, impl.TypeOk, "*0"}, {nil, "*0", 1, impl.TypeOk, "*1"}, {nil, "*2", 3, impl.TypeOk, "*3"}, {nil, "(*0>#0)", 1, impl.TypeOk, "*1"}, {nil, "(*1*N)", 2, impl.TypeOk, "*2"}, {nil, "{*1,*0,*0}", 2, impl.TypeOk, "*2"}, {nil, "([*1]#0 *0)", 1, impl.TypeOk, "*1"}, {nil, "<[N]*1,*0,[N][*1]#0,0>", 1, impl.TypeOk, "*1"}, {nil, "<[N]*2,*1,[N][*2]#0,0>", 0, impl.TypeBad, ""}, {[]string{"*1"}, "#0", 1, impl.TypeOk, "*1"}, {[]string{"([*2]#0 *1)"}, "#0", 1, impl.TypeOk, "*1"}, {nil, "^|(*0*N),N,0|", 0, impl.TypeOk, "*0"},
		{nil, "0", 0, impl.TypeBad, "N"}, {nil, "[N]*1", 0, impl.TypeBad, "(N>*2)"}, {nil, "!0", 0, impl.TypeBad, "{N,0,0}"}, {nil, "<[N]N,0,[N][N]#1,++0>", 0, impl.TypeBad, "N"}, {nil, "!([N]#0 0)", 0, impl.TypeBad, "{N,0,0}"}, {nil, "[N][N]<[N]N,#1,[N][N]+#0,#0>", 0, impl.TypeBad, "(N>(N>N))"}, {[]string{"(N*{N,#0,([N]#0 #0)})"}, "_#0", 0, impl.TypeBad, "{N,^#0,^#0}"}, {nil, "*3", 0, impl.TypeBad, ""}, {nil, "#0", 0, impl.TypeBad, ""}, {[]string{"0"}, "N", 0, impl.TypeBad, ""},
		{number, "+#0", 0, impl.TypeOpen, ""}, {[]string{late(t), "{N,#0,#0}"}, "N", 0, impl.TypeOpen, ""}, {[]string{slow(t, 200, "N", 0)}, "#0", 0, impl.TypeBad, "N"}, {[]string{slow(t, 200, "*0", 1)}, "#0", 0, impl.TypeOk, "*0"},
	} {
		ctx, x := parseAll(t, c.ctx), parse(t, c.text)
		if n, code := impl.SortOf(ctx, x); n != c.level || code != c.code {
			t.Errorf("SortOf of %s = %d, %d, want %d, %d", said(ctx, x), n, code, c.level, c.code)
		}
		want, code := impl.Term{}, c.code
		if c.normal != "" {
			want, code = parse(t, c.normal), impl.TypeOk
		}
		got, gotCode := impl.InferNormal(ctx, x)
		checkTyped(t, "InferNormal of "+said(ctx, x), got, gotCode, want, code)
		checkTyping(t, ctx, x)
	}
	// A type that is inferred, but has no normal term within the limits: both
	// parts of the pair need 120 steps.
	half := slow(t, 120, "N", 0)
	for _, c := range []typingCase{{[]string{half}, "#0", half}, {[]string{"(" + half + "*N)"}, "#0", "(" + half + "*N)"}} {
		checkTypingCases(t, []typingCase{c})
	}
	ctx := parseAll(t, []string{"(" + half + "*" + half + ")"})
	got, code := impl.InferNormal(ctx, variable(0))
	checkTyped(t, "InferNormal", got, code, impl.Term{}, impl.TypeOpen)
	got, code = impl.InferType(ctx, variable(0))
	checkTyped(t, "InferType", got, code, ctx[0], impl.TypeOk)
	// One that becomes too large.
	wide := mk(impl.TermApp, parse(t, "[N]{N,#0,#0}"), wideNumber(t, 200))
	got, code = impl.InferNormal([]impl.Term{wide}, variable(0))
	checkTyped(t, "InferNormal of a type that becomes too large", got, code, impl.Term{}, impl.TypeOpen)
	got, code = impl.InferType([]impl.Term{wide}, variable(0))
	checkTyped(t, "InferType of the same", got, code, wide, impl.TypeOk)
}

// changed returns x with another term in one place: a small one, or a part of
// x from elsewhere.
func (m maker) changed(x impl.Term) impl.Term {
	if m.r.Intn(2) == 0 {
		return changeAny(m.r, x)
	}
	places := allPlaces(x)
	part := partAt(x, places[m.r.Intn(len(places))])
	return putAt(x, places[m.r.Intn(len(places))], part)
}

func TestTypingOfRandomTerms(t *testing.T) {
	m := maker{rand.New(rand.NewSource(5))}
	codes := map[int]int{}
	for round := range 500 {
		j := m.judgement(round%4, 2+round%2)
		other := m.judgement(0, 2)
		checkTyping(t, j.ctx, j.term, j.is, nat(), other.is)
		checkTyping(t, j.ctx, j.is, sort(0), j.is)
		checkTyping(t, j.ctx, other.term, other.is, j.is)
		for range 4 {
			x := m.changed(j.term)
			checkTyping(t, j.ctx, x, m.changed(j.is), j.is)
			_, code := impl.InferType(j.ctx, x)
			codes[code]++
			if len(j.ctx) > 0 {
				ctx := slices.Clone(j.ctx)
				ctx[m.r.Intn(len(ctx))] = m.changed(ctx[m.r.Intn(len(ctx))])
				checkTyping(t, ctx, j.term, j.is)
			}
		}
		checkTyping(t, j.ctx, randomReducible(m.r, 4, 4))
	}
	if codes[impl.TypeOk] < 200 || codes[impl.TypeBad] < 200 {
		t.Errorf("there are too few terms of one kind: %v", codes)
	}
}

// tally counts what is decided, so that a law is not only checked for terms
// that reach a limit.
type tally struct {
	decided, open int
}

// checkKeeps wants x to have a type that is convertible to the given one.
func (c *tally) checkKeeps(t *testing.T, what string, ctx []impl.Term, x, is impl.Term) {
	t.Helper()
	found, code := impl.InferType(ctx, x)
	same := impl.ConvYes
	if code == impl.TypeOk {
		same = impl.Convertible(found, is, 200)
	}
	if code == impl.TypeOpen || same == impl.ConvOpen {
		c.open++
		return
	}
	c.decided++
	if code != impl.TypeOk || same != impl.ConvYes {
		t.Errorf("%s: %s has the type %s, %d, want %s", what, said(ctx, x), textOrZero(found), code, textOf(is))
		return
	}
	// No term has the type `*3`, since that is no type itself, although it is
	// inferred for `*2`.
	if _, code := impl.SortOf(ctx, is); code == impl.TypeOk {
		if code := impl.CheckType(ctx, x, is); code != impl.TypeOk && code != impl.TypeOpen {
			t.Errorf("%s: CheckType of %s and %s = %d", what, said(ctx, x), textOf(is), code)
		}
	}
}

func (c *tally) checkDecided(t *testing.T, least int) {
	t.Helper()
	if c.decided < least || c.open > c.decided/10 {
		t.Errorf("%d cases are decided, and %d are not", c.decided, c.open)
	}
}

func TestStepsPreserveTypes(t *testing.T) {
	m := maker{rand.New(rand.NewSource(6))}
	var c tally
	for round := range 1200 {
		j := m.judgement(round%4, 2+round%2)
		for _, o := range []order{outside(), inside()} {
			seen := o.traceOf(j.term, 6)
			for _, y := range seen.terms[1:] {
				c.checkKeeps(t, "a step", j.ctx, y, j.is)
			}
		}
		for _, normalize := range []func(impl.Term, int) (impl.Term, int){impl.Normalize, impl.NormalizeInner, impl.HeadNormal} {
			if y, code := normalize(j.term, 200); code == impl.NormOk {
				c.checkKeeps(t, "a normal term", j.ctx, y, j.is)
			}
		}
		if y, ok := impl.DevelopTerm(j.term); ok {
			c.checkKeeps(t, "a development", j.ctx, y, j.is)
		}
		// Steps of the type, and of the types of the context.
		if y, code := impl.StepTerm(j.is); code == impl.StepTook {
			c.checkKeeps(t, "a step of the type", j.ctx, j.term, y)
		}
		for i := range j.ctx {
			ctx := slices.Clone(j.ctx)
			if y, code := impl.StepInner(ctx[i]); code == impl.StepTook {
				ctx[i] = y
				c.checkKeeps(t, "a step of the context", ctx, j.term, j.is)
			}
		}
	}
	c.checkDecided(t, 4000)
}

// One redex of each code, with types that are only known after other steps.
func TestStepsOfEveryCodePreserveTypes(t *testing.T) {
	for _, c := range []typingCase{
		{[]string{"N"}, "([N]!#0 +#0)", "{N,+#0,+#0}"}, {[]string{"*0", "#0"}, "(([*0][#0]#0 #1) #0)", "#1"}, {[]string{"N"}, "([(N>N)](#0 #1) [N]+#0)", "N"},
		{nil, "<[N]{N,#0,#0},!0,[N][{N,#0,#0}]!+#1,0>", "{N,0,0}"}, {[]string{"N"}, "<[N]{N,#0,#0},!0,[N][{N,#0,#0}]!+#1,++#0>", "{N,++#0,++#0}"}, {nil, "<[N]*0,N,[N][*0](N>#1),++0>", "*0"}, {[]string{"(N>*0)", "(#0 0)", "(N>((#2 #0)>(#3 +#1)))"}, "<#2,#1,#0,++0>", "(#2 ++0)"},
		{[]string{"N"}, "@<[N]{N,#0,#1},!#0,!#0>", "{N,#0,#0}"}, {[]string{"(N>*0)", "(#0 ([N]#0 0))"}, "@<#1,!([N]#0 0),#0>", "(#1 0)"},
		{nil, "^|(N*{N,#0,0}),0,!0|", "N"}, {nil, "_|(N*{N,#0,([N]0 0)}),0,!0|", "{N,0,0}"}, {nil, "_|(*0*#0),(N>N),[N]#0|", "(N>N)"}, {nil, "_^|((N*N)*N),|(N*N),0,+0|,0|", "N"},
	} {
		ctx, x, is := parseAll(t, c.ctx), parse(t, c.text), parse(t, c.want)
		if impl.RedexOf(x) == impl.RedexNone && x.Kind == impl.TermApp && impl.CountRedexes(x) == 0 {
			t.Fatalf("the test is wrong: %s has no redex", c.text)
		}
		var seen tally
		for _, o := range []order{outside(), inside()} {
			for _, y := range o.traceOf(x, 20).terms {
				seen.checkKeeps(t, "a step", ctx, y, is)
			}
		}
		if seen.open > 0 || seen.decided < 4 {
			t.Errorf("%s: %d terms are decided, and %d are not", c.text, seen.decided, seen.open)
		}
	}
}

func TestSubstitutionsPreserveTypes(t *testing.T) {
	m := maker{rand.New(rand.NewSource(7))}
	var c tally
	used := 0
	for round := 0; c.decided < 600 && round < 20000; round++ {
		j := m.judgement(1+round%4, 2+round%2)
		if len(j.ctx) == 0 {
			continue
		}
		i := m.r.Intn(len(j.ctx)) // the free variable that is replaced
		first := len(j.ctx) - 1 - i
		u, ok := m.element(j.ctx[:first], j.ctx[first], 3)
		if _, code := impl.InferType(j.ctx[:first], u); !ok || code != impl.TypeOk {
			continue
		}
		ctx := slices.Clone(j.ctx[:first])
		valid := true
		replaced := func(x impl.Term, index int) impl.Term {
			y, ok := impl.SubstTerm(x, index, moved(u, index))
			valid = valid && ok
			return y
		}
		for k, a := range j.ctx[first+1:] {
			ctx = append(ctx, replaced(a, k))
		}
		x, is := replaced(j.term, i), replaced(j.is, i)
		if !valid {
			continue
		}
		if impl.FreeAt(j.term, i) {
			used++
		}
		c.checkKeeps(t, "a substitution in "+said(j.ctx, j.term), ctx, x, is)
	}
	c.checkDecided(t, 600)
	if used < 100 {
		t.Errorf("only %d variables occur in the term", used)
	}
}

func TestFurtherVariablesPreserveTypes(t *testing.T) {
	m := maker{rand.New(rand.NewSource(8))}
	cases := 0
	for round := range 1200 {
		j := m.judgement(round%5, 2+round%2)
		i := m.r.Intn(len(j.ctx) + 1) // what the further variable is before the others are entered
		first := len(j.ctx) - i
		further, ok := m.someType(j.ctx[:first], 2)
		if _, code := impl.SortOf(j.ctx[:first], further); !ok || code != impl.TypeOk {
			continue
		}
		ctx := with(j.ctx[:first], further)
		valid := true
		shifted := func(x impl.Term, cut int) impl.Term {
			y, ok := impl.ShiftTerm(x, 1, cut)
			valid = valid && ok
			return y
		}
		for k, a := range j.ctx[first:] {
			ctx = append(ctx, shifted(a, k))
		}
		x, is := shifted(j.term, i), shifted(j.is, i)
		got, code := impl.InferType(ctx, x)
		if !valid || code == impl.TypeOpen {
			continue
		}
		cases++
		checkTyped(t, "InferType of "+said(ctx, x), got, code, is, impl.TypeOk)
		y := m.changed(j.term)
		if _, code := impl.InferType(j.ctx, y); code == impl.TypeBad {
			if got, code := impl.InferType(ctx, shifted(y, i)); code != impl.TypeBad {
				t.Errorf("%s has no type, but with a further variable it has %s, %d", said(j.ctx, y), textOrZero(got), code)
			}
		}
	}
	if cases < 800 {
		t.Errorf("there are only %d cases", cases)
	}
}

// checkAllInvalid wants TypeInvalid of every function.
func checkAllInvalid(t *testing.T, what string, ctx []impl.Term, x impl.Term) {
	t.Helper()
	got, code := impl.InferType(ctx, x)
	checkTyped(t, "InferType: "+what, got, code, impl.Term{}, impl.TypeInvalid)
	got, code = impl.InferNormal(ctx, x)
	checkTyped(t, "InferNormal: "+what, got, code, impl.Term{}, impl.TypeInvalid)
	if n, code := impl.SortOf(ctx, x); n != 0 || code != impl.TypeInvalid {
		t.Errorf("SortOf: %s: %d, %d", what, n, code)
	}
	for _, other := range []impl.Term{nat(), sort(3), zero(), variable(20)} {
		if code := impl.CheckType(ctx, x, other); code != impl.TypeInvalid {
			t.Errorf("CheckType of a term: %s: %d", what, code)
		}
		if code := impl.CheckType(ctx, other, x); code != impl.TypeInvalid {
			t.Errorf("CheckType with a type: %s: %d", what, code)
		}
	}
}

// An argument that is not valid goes before everything else, also before the
// codes of other arguments.
func TestTypingOfInvalidTerms(t *testing.T) {
	list := append(invalidTerms(), impl.Term{}, mk(77), variable(21), variable(-1), sort(4), sort(-1), mk(impl.TermNat, nat()), mk(impl.TermPi, nat()), sized(401), succs(30, zero()), ring(3, impl.TermSucc), doubled(40, zero()))
	for i, x := range list {
		what := fmt.Sprint("the invalid term ", i)
		for _, ctx := range [][]impl.Term{nil, parseAll(t, []string{"N"}), parseAll(t, []string{"0"}), parseAll(t, []string{late(t), "{N,#0,#0}"})} {
			checkAllInvalid(t, what, ctx, x)
			for place := range len(ctx) + 1 {
				longer := slices.Insert(slices.Clone(ctx), place, x)
				checkAllInvalid(t, what+" in the context", longer, zero())
				checkAllInvalid(t, what+" in the context", longer, x)
				if code := impl.CheckContext(longer); code != impl.TypeInvalid {
					t.Errorf("CheckContext with %s at %d = %d", what, place, code)
				}
			}
		}
		everyPlace(func(kind, index int) {
			checkAllInvalid(t, what+" as an operand", nil, around(kind, index, x))
		})
	}
	for _, ctx := range [][]impl.Term{slices.Repeat([]impl.Term{nat()}, 9), slices.Repeat([]impl.Term{zero()}, 9), slices.Repeat([]impl.Term{sort(3)}, 20), make([]impl.Term, 9)} {
		for _, x := range []impl.Term{zero(), nat(), sort(3), variable(8), mk(77)} {
			checkAllInvalid(t, "a long context", ctx, x)
		}
	}
	if n := impl.TermDepth(succs(29, zero())); n != 30 {
		t.Fatalf("the test is wrong: the depth is %d", n)
	}
	checkTyping(t, nil, succs(29, zero()), nat())
	checkTyping(t, nil, wideNumber(t, 400), nat())
	checkTyping(t, nil, wideType(t, 400), sort(0))
}

func TestTypingSharesNoMemory(t *testing.T) {
	for _, c := range []typingCase{
		{[]string{"(N>N)", "{(N>N),#0,#0}"}, "#0", ""}, {[]string{"(N*(N>N))"}, "_#0", ""}, {[]string{"((N>N)*N)"}, "^#0", ""}, {nil, "[(N>N)](#0 +0)", ""}, {nil, "!(+0 0)", "bad"}, {nil, "!|(N*(N>N)),+0,[N]+#0|", ""}, {nil, "|(N*(N>N)),+0,[N]+#0|", ""}, {[]string{"(N>{N,+#0,#0})"}, "(#0 ++0)", ""}, {nil, "(([N][N]#0 +0) +0)", ""},
		{nil, "<[N](N>N),[N]+#0,[N][(N>N)]#0,+0>", ""}, {[]string{"{N,+0,++0}"}, "@<[N](N>N),#0,[N]#0>", ""}, {nil, "[(N>N)][(N>N)]#0", ""}, {[]string{"N", "{N,+#0,#0}"}, "*0", ""}, {nil, "(N>N)", ""}, {nil, "{(N>N),[N]#0,[N]#0}", ""},
	} {
		store := append(parseAll(t, c.ctx), mk(77), nat())
		ctx, x, is := store[:len(c.ctx)], parse(t, c.text), nat()
		before := textsOf(ctx)
		for _, infer := range []func([]impl.Term, impl.Term) (impl.Term, int){impl.InferType, impl.InferNormal} {
			first, _ := infer(ctx, x)
			second, code := infer(ctx, x)
			if code != c.code() {
				t.Errorf("the code of %s is %d", said(ctx, x), code)
			}
			want := copyTerm(second)
			overwrite(first)
			if !equalTerm(second, want) || !equalTerm(x, parse(t, c.text)) || !slices.Equal(before, textsOf(ctx)) {
				t.Errorf("the type of %s shares memory with an argument or with another type", said(ctx, x))
			}
			checkSeparateParts(t, second)
			is = want
		}
		impl.CheckContext(ctx)
		impl.SortOf(ctx, x)
		impl.CheckType(ctx, x, is)
		if !equalTerm(x, parse(t, c.text)) || !slices.Equal(before, textsOf(ctx)) || store[len(c.ctx)].Kind != 77 || store[len(c.ctx)+1].Kind != impl.TermNat {
			t.Errorf("arguments are changed: %s", said(ctx, x))
		}
	}
}

// Operands, and the types of a context, may share memory with each other.
func TestTypingOfSharedOperands(t *testing.T) {
	for levels := range 8 {
		x := nat()
		for range levels {
			kids := []impl.Term{x, x}
			x = impl.Term{Kind: impl.TermPi, Kids: kids}
		}
		separate := copyTerm(x)
		ctx := []impl.Term{x, x, x}
		checkTyping(t, ctx, x, sort(0))
		checkTyping(t, ctx, mk(impl.TermRefl, x))
		got, code := impl.InferType(ctx, variable(1))
		checkTyped(t, "InferType of a variable of a shared type", got, code, separate, impl.TypeOk)
		checkSeparateParts(t, got)
		if !equalTerm(x, separate) {
			t.Error("shared operands are changed")
		}
	}
}

// Types of types of parts are needed again and again: without care, the work
// for a node would be twice that for the one below it, or more.
func TestTypingOfDeepTerms(t *testing.T) {
	for _, text := range []string{"!X", "[N]X", "![N]X", "!([N]X 0)", "!<[N]N,0,[N][N]#0,X>", "!^|(N*N),X,0|", "![N]<[N]N,X,[N][N]X,0>", "!(X>X)", "{*0,X,X}"} {
		typed := 0
		for _, inner := range []string{"0", "N"} {
			for full := inner; ; full = strings.ReplaceAll(text, "X", full) {
				x, ok := impl.ParseTerm(full)
				if !ok {
					break
				}
				if _, code := impl.InferType(nil, x); code == impl.TypeOk {
					typed++
				}
				impl.InferNormal(nil, mk(impl.TermRefl, mk(impl.TermLam, nat(), x)))
			}
		}
		if typed < 3 {
			t.Errorf("only %d terms of the form %s have a type", typed, text)
		}
	}
}

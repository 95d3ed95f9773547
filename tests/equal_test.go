package tests

import (
	"fmt"
	"maps"
	"math/rand"
	"slices"
	"strings"
	"testing"

	"loop.example/depkernel/impl"
)

// Promise 11: proofs of symmetry, transitivity and congruence have the types
// that they should have.

// parts are the terms for the letters of a text of chapter 11, in which ' is
// written for ↑.
type parts map[string]impl.Term

func (p parts) text(form string) string {
	var pairs []string
	for letter, x := range p {
		lifted, _ := wantShift(x, 1, 0)
		pairs = append(pairs, letter+"'", textOf(lifted), letter, textOf(x))
	}
	return strings.NewReplacer(pairs...).Replace(form)
}

// The following methods are chapter 11, written down a second time: proofs are
// put together as texts.

func (j judge) valid(x impl.Term) impl.Term {
	if anyInvalid(x) {
		panic(judged(impl.TypeInvalid))
	}
	return x
}

// sides gives the letters to SidesOf of e.
func (j judge) sides(e impl.Term, letters string) parts {
	id := j.form(j.typeOf(j.valid(e)), impl.TermId)
	return parts{letters[:1]: id.Kids[0], letters[1:2]: id.Kids[1], letters[2:]: id.Kids[2]}
}

// made is the term with the text, if it is valid and has a type.
func (j judge) made(form string, p parts) impl.Term {
	x, _ := impl.ParseTerm(p.text(form))
	j.typeOf(j.open(x))
	return x
}

func (j judge) sym(e impl.Term) impl.Term {
	p := j.sides(e, "TAB")
	p["e"] = e
	return j.made("@<[T]{T',#0,A'},e,!A>", p)
}

func (j judge) trans(d, e impl.Term) impl.Term {
	p, q := j.sides(d, "TAB"), j.sides(e, "SDC")
	j.compare(p["T"], q["S"])
	j.compare(p["B"], q["D"])
	maps.Copy(p, q)
	p["d"], p["e"] = d, e
	return j.made("@<[S]{T',A',#0},e,d>", p)
}

func (j judge) cong(f, e impl.Term) impl.Term {
	p := j.sides(e, "TAB")
	pi := j.form(j.typeOf(j.valid(f)), impl.TermPi)
	if slices.Contains(freeNumbers(pi.Kids[1]), 0) {
		panic(judged(impl.TypeBad))
	}
	j.compare(p["T"], pi.Kids[0])
	p["R"], p["f"], p["e"] = pi.Kids[1], f, e
	return j.made("@<[T]{R,(f' A'),(f' #0)},e,!(f A)>", p)
}

func (j judge) id(a, b impl.Term) impl.Term {
	is := j.typeOf(a)
	j.valid(b)
	j.level(is)
	j.check(b, is)
	return j.made("{T,a,b}", parts{"T": is, "a": a, "b": b})
}

// builder is a function of the chapter that builds a term.
type builder struct {
	name  string
	arity int
	first int // the argument that is treated first
	call  func(ctx []impl.Term, args ...impl.Term) (impl.Term, int)
	want  func(j judge, args ...impl.Term) impl.Term
}

func symBuilder() builder {
	return builder{"SymProof", 1, 0, func(ctx []impl.Term, args ...impl.Term) (impl.Term, int) {
		return impl.SymProof(ctx, args[0])
	}, func(j judge, args ...impl.Term) impl.Term { return j.sym(args[0]) }}
}

func transBuilder() builder {
	return builder{"TransProof", 2, 0, func(ctx []impl.Term, args ...impl.Term) (impl.Term, int) {
		return impl.TransProof(ctx, args[0], args[1])
	}, func(j judge, args ...impl.Term) impl.Term { return j.trans(args[0], args[1]) }}
}

func congBuilder() builder {
	return builder{"CongProof", 2, 1, func(ctx []impl.Term, args ...impl.Term) (impl.Term, int) {
		return impl.CongProof(ctx, args[0], args[1])
	}, func(j judge, args ...impl.Term) impl.Term { return j.cong(args[0], args[1]) }}
}

func idBuilder() builder {
	return builder{"IdType", 2, 0, func(ctx []impl.Term, args ...impl.Term) (impl.Term, int) {
		return impl.IdType(ctx, args[0], args[1])
	}, func(j judge, args ...impl.Term) impl.Term { return j.id(args[0], args[1]) }}
}

func builders() []builder {
	return []builder{symBuilder(), transBuilder(), congBuilder(), idBuilder()}
}

// shown is like textsOf, but also for terms that are not valid.
func shown(list []impl.Term) []string {
	var texts []string
	for _, x := range list {
		if anyInvalid(x) {
			texts = append(texts, "an invalid term")
		} else {
			texts = append(texts, textOf(x))
		}
	}
	return texts
}

func (b builder) said(ctx, args []impl.Term) string {
	return fmt.Sprint(b.name, " of ", shown(ctx), " and ", shown(args))
}

func (b builder) wanted(ctx []impl.Term, args ...impl.Term) (x impl.Term, code int) {
	code = wantIn(ctx, []impl.Term{args[b.first]}, func(j judge) { x = b.want(j, args...) })
	return x, code
}

// check compares a call with the second writing, and returns its result.
func (b builder) check(t *testing.T, ctx []impl.Term, args ...impl.Term) (impl.Term, int) {
	t.Helper()
	want, wantCode := b.wanted(ctx, args...)
	got, code := b.call(ctx, args...)
	checkTyped(t, b.said(ctx, args), got, code, want, wantCode)
	return got, code
}

// checkCode wants the zero value and a code.
func (b builder) checkCode(t *testing.T, code int, ctx []impl.Term, args ...impl.Term) {
	t.Helper()
	got, gotCode := b.call(ctx, args...)
	checkTyped(t, b.said(ctx, args), got, gotCode, impl.Term{}, code)
}

func sidesOf(ctx []impl.Term, e impl.Term) (list []impl.Term, code int) {
	over, left, right, code := impl.SidesOf(ctx, e)
	return []impl.Term{over, left, right}, code
}

// checkSides wants three zero values with another code than TypeOk.
func checkSides(t *testing.T, ctx []impl.Term, e impl.Term, want []impl.Term, wantCode int) {
	t.Helper()
	if wantCode != impl.TypeOk {
		want = make([]impl.Term, 3)
	}
	got, code := sidesOf(ctx, e)
	if code != wantCode || !slices.EqualFunc(got, want, equalTerm) {
		t.Errorf("SidesOf of %s and %s = %s, %d, want %s, %d", shown(ctx), shown([]impl.Term{e}), shown(got), code, shown(want), wantCode)
	}
}

func wantSides(ctx []impl.Term, e impl.Term) (list []impl.Term, code int) {
	code = wantIn(ctx, []impl.Term{e}, func(j judge) {
		p := j.sides(e, "TAB")
		list = []impl.Term{p["T"], p["A"], p["B"]}
	})
	return list, code
}

// checkEquality compares all functions of the chapter, for all pairs of the
// terms.
func checkEquality(t *testing.T, ctx []impl.Term, terms ...impl.Term) {
	t.Helper()
	for _, x := range terms {
		want, code := wantSides(ctx, x)
		checkSides(t, ctx, x, want, code)
		symBuilder().check(t, ctx, x)
		for _, y := range terms {
			for _, b := range builders() {
				if b.arity == 2 {
					b.check(t, ctx, x, y)
				}
			}
		}
	}
}

// buildCase has the texts of a call, of the term that it returns and of the
// type that is inferred for it. Instead of the term, there may be a short word
// for the code, and then there is no type.
type buildCase struct {
	ctx  []string
	args []string
	want string
	is   string
}

func codeOf(word string) int { return typingCase{want: word}.code() }

func (b builder) checkCases(t *testing.T, cases []buildCase) {
	t.Helper()
	for _, c := range cases {
		ctx, args := parseAll(t, c.ctx), parseAll(t, c.args)
		if code := codeOf(c.want); code != impl.TypeOk {
			b.checkCode(t, code, ctx, args...)
		} else {
			got, code := b.call(ctx, args...)
			checkTyped(t, b.said(ctx, args), got, code, parse(t, c.want), impl.TypeOk)
			if text := impl.FormatTerm(got); text != c.want {
				t.Errorf("the text of %s is %s, want %s", b.said(ctx, args), text, c.want)
			}
			found, code := impl.InferType(ctx, got)
			checkTyped(t, "the type of "+said(ctx, got), found, code, parse(t, c.is), impl.TypeOk)
		}
		checkEquality(t, ctx, args...)
	}
}

// steps is a context of three numbers with a proof that the first one equals
// the second one, and one that the second one equals the third one.
func steps() []string { return []string{"N", "N", "N", "{N,#2,#1}", "{N,#2,#1}"} }

// abstract is the same for elements of any type.
func abstract() []string { return []string{"*0", "#0", "#1", "#2", "{#3,#2,#1}", "{#4,#2,#1}"} }

func TestSides(t *testing.T) {
	number := []string{late(t)}
	for _, c := range []struct {
		ctx  []string
		text string
		want []string // or one short word for the code
	}{
		{[]string{"N"}, "!#0", []string{"N", "#0", "#0"}}, {steps(), "#0", []string{"N", "#3", "#2"}}, {steps(), "#1", []string{"N", "#4", "#3"}}, {abstract(), "#0", []string{"#5", "#3", "#2"}}, {abstract(), "#1", []string{"#5", "#4", "#3"}}, {nil, "!N", []string{"*0", "N", "N"}}, {nil, "![N]+#0", []string{"(N>N)", "[N]+#0", "[N]+#0"}}, {nil, "!!0", []string{"{N,0,0}", "!0", "!0"}},
		{[]string{"(N>{N,#0,+#0})"}, "(#0 +0)", []string{"N", "+0", "++0"}}, {[]string{"(N*{N,#0,0})"}, "_#0", []string{"N", "^#0", "0"}}, {[]string{"N", "{N,#0,+0}"}, "@<[N]{N,#0,#2},#0,!#1>", []string{"N", "+0", "#1"}}, {nil, "<[N]{N,#0,#0},!0,[N][{N,#0,#0}]!+#1,++0>", []string{"N", "++0", "++0"}},
		// A type that has the form only after reduction.
		{[]string{"([N]{N,#0,0} +0)"}, "#0", []string{"N", "+0", "0"}}, {[]string{"^|(*0*N),{N,0,+0},0|"}, "#0", []string{"N", "0", "+0"}}, {[]string{"<[N]*0,{N,0,+0},[N][*0]#0,++0>"}, "#0", []string{"N", "0", "+0"}}, {[]string{"N", "([N]{N,#0,#1} +#0)"}, "#0", []string{"N", "+#1", "#1"}}, {[]string{slow(t, 200, "{N,0,0}", 0)}, "#0", []string{"N", "0", "0"}}, {[]string{"@<[N]*0,!0,([N]{N,#0,0} 0)>"}, "#0", []string{"N", "0", "0"}},
		// The parts of the form are not reduced.
		{[]string{"{N,([N]#0 0),+0}"}, "#0", []string{"N", "([N]#0 0)", "+0"}}, {[]string{"{([*0]#0 N),0,([N]#0 0)}"}, "#0", []string{"([*0]#0 N)", "0", "([N]#0 0)"}}, {[]string{"([N]{N,#0,([N]#0 #0)} +0)"}, "#0", []string{"N", "+0", "([N]#0 +0)"}},
		// A type that never has the form, or none.
		{nil, "0", []string{"bad"}}, {nil, "N", []string{"bad"}}, {nil, "[N]!#0", []string{"bad"}}, {nil, "{N,0,0}", []string{"bad"}}, {nil, "|(N*{N,#0,0}),0,!0|", []string{"bad"}}, {[]string{"(N>*0)", "(#0 0)"}, "#0", []string{"bad"}}, {[]string{"(N>{N,#0,#0})"}, "#0", []string{"bad"}}, {[]string{"([*0]#0 N)"}, "#0", []string{"bad"}}, {[]string{"*0", "#0"}, "#0", []string{"bad"}}, {[]string{slow(t, 200, "N", 0)}, "#0", []string{"bad"}},
		{nil, "*3", []string{"bad"}}, {nil, "#0", []string{"bad"}}, {nil, "!+N", []string{"bad"}}, {nil, "!*2", []string{"bad"}}, {[]string{"0"}, "!0", []string{"bad"}}, {steps(), "#5", []string{"bad"}},
		{number, "!+#0", []string{"open"}}, {[]string{slow(t, 201, "{N,0,0}", 0)}, "#0", []string{"open"}}, {[]string{slow(t, 201, "N", 0)}, "#0", []string{"open"}}, {[]string{late(t), "{N,#0,#0}"}, "!0", []string{"open"}}, {nil, chain("[N]", 21, "!0", ""), []string{"open"}},
		// An operand that is not decided does not matter, if nothing asks for it.
		{number, "!#0", []string{late(t), "#0", "#0"}}, {[]string{late(t), "{N,0,0}"}, "#0", []string{"N", "0", "0"}},
	} {
		ctx, e := parseAll(t, c.ctx), parse(t, c.text)
		if code := codeOf(c.want[0]); code != impl.TypeOk {
			checkSides(t, ctx, e, nil, code)
		} else {
			checkSides(t, ctx, e, parseAll(t, c.want), impl.TypeOk)
		}
		checkEquality(t, ctx, e, nat())
	}
}

func TestSymProofs(t *testing.T) {
	number := []string{late(t)}
	symBuilder().checkCases(t, []buildCase{
		{[]string{"N"}, []string{"!#0"}, "@<[N]{N,#0,#1},!#0,!#0>", "([N]{N,#0,#1} #0)"}, {steps(), []string{"#0"}, "@<[N]{N,#0,#4},#0,!#3>", "([N]{N,#0,#4} #2)"}, {steps(), []string{"#1"}, "@<[N]{N,#0,#5},#1,!#4>", "([N]{N,#0,#5} #3)"}, {[]string{"N", "N", "{N,#1,+#0}"}, []string{"#0"}, "@<[N]{N,#0,#3},#0,!#2>", "([N]{N,#0,#3} +#1)"}, {[]string{"N", "N", "{N,+#0,#1}"}, []string{"#0"}, "@<[N]{N,#0,+#2},#0,!+#1>", "([N]{N,#0,+#2} #2)"}, {nil, []string{"!0"}, "@<[N]{N,#0,0},!0,!0>", "([N]{N,#0,0} 0)"},
		// A type with free variables, and with binders.
		{abstract(), []string{"#0"}, "@<[#5]{#6,#0,#4},#0,!#3>", "([#5]{#6,#0,#4} #2)"}, {abstract(), []string{"#1"}, "@<[#5]{#6,#0,#5},#1,!#4>", "([#5]{#6,#0,#5} #3)"}, {[]string{"*0", "(#0>#1)", "(#1>#2)", "{(#2>#3),#1,#0}"}, []string{"#0"}, "@<[(#3>#4)]{(#4>#5),#0,#3},#0,!#2>", "([(#3>#4)]{(#4>#5),#0,#3} #1)"}, {[]string{"(N>N)"}, []string{"![N](#1 #0)"}, "@<[(N>N)]{(N>N),#0,[N](#2 #0)},![N](#1 #0),![N](#1 #0)>", "([(N>N)]{(N>N),#0,[N](#2 #0)} [N](#1 #0))"}, {[]string{"{*0,N,(N>N)}"}, []string{"#0"}, "@<[*0]{*0,#0,N},#0,!N>", "([*0]{*0,#0,N} (N>N))"}, {[]string{"N", "{{N,#0,#0},!#0,!#0}"}, []string{"#0"}, "@<[{N,#1,#1}]{{N,#2,#2},#0,!#2},#0,!!#1>", "([{N,#1,#1}]{{N,#2,#2},#0,!#2} !#1)"},
		// Proofs that are no variables.
		{[]string{"(N>{N,#0,+#0})"}, []string{"(#0 +0)"}, "@<[N]{N,#0,+0},(#0 +0),!+0>", "([N]{N,#0,+0} ++0)"}, {[]string{"(N*{N,#0,0})"}, []string{"_#0"}, "@<[N]{N,#0,^#1},_#0,!^#0>", "([N]{N,#0,^#1} 0)"}, {[]string{"N"}, []string{"<[N]{N,#0,#0},!0,[N][{N,#0,#0}]!+#1,#0>"}, "@<[N]{N,#0,#1},<[N]{N,#0,#0},!0,[N][{N,#0,#0}]!+#1,#0>,!#0>", "([N]{N,#0,#1} #0)"},
		// A type that has the form only after reduction, and parts that are not reduced.
		{[]string{"N", "([N]{N,#0,+0} #0)"}, []string{"#0"}, "@<[N]{N,#0,#2},#0,!#1>", "([N]{N,#0,#2} +0)"}, {[]string{"{N,([N]#0 0),+0}"}, []string{"#0"}, "@<[N]{N,#0,([N]#0 0)},#0,!([N]#0 0)>", "([N]{N,#0,([N]#0 0)} +0)"}, {[]string{"{([*0]#0 N),0,+0}"}, []string{"#0"}, "@<[([*0]#0 N)]{([*0]#0 N),#0,0},#0,!0>", "([([*0]#0 N)]{([*0]#0 N),#0,0} +0)"},
		// A proof that is itself moved.
		{steps(), []string{"@<[N]{N,#0,#4},#0,!#3>"}, "@<[N]{N,#0,#3},@<[N]{N,#0,#4},#0,!#3>,!#2>", "([N]{N,#0,#3} #3)"}, {steps(), []string{"@<[N]{N,#5,#0},#0,#1>"}, "@<[N]{N,#0,#5},@<[N]{N,#5,#0},#0,#1>,!#4>", "([N]{N,#0,#5} #2)"}, {steps(), []string{"@<[N]{N,+#4,+#0},#0,!+#3>"}, "@<[N]{N,#0,+#4},@<[N]{N,+#4,+#0},#0,!+#3>,!+#3>", "([N]{N,#0,+#4} +#2)"},
		// Types of the greatest levels: the family has no type.
		{[]string{"{*1,*0,*0}"}, []string{"#0"}, "@<[*1]{*1,#0,*0},#0,!*0>", "([*1]{*1,#0,*0} *0)"}, {[]string{"{*2,*1,*1}"}, []string{"#0"}, "bad", ""}, {nil, []string{"!*1"}, "bad", ""}, {nil, []string{"!*0"}, "@<[*1]{*1,#0,*0},!*0,!*0>", "([*1]{*1,#0,*0} *0)"},
		{nil, []string{"0"}, "bad", ""}, {nil, []string{"N"}, "bad", ""}, {steps(), []string{"#2"}, "bad", ""}, {nil, []string{"[N]!#0"}, "bad", ""}, {nil, []string{"*3"}, "bad", ""}, {nil, []string{"#0"}, "bad", ""}, {nil, []string{"!+N"}, "bad", ""}, {[]string{"(N>*0)", "(#0 0)"}, []string{"#0"}, "bad", ""}, {[]string{"0"}, []string{"!0"}, "bad", ""},
		{number, []string{"!+#0"}, "open", ""}, {number, []string{"#0"}, "open", ""}, {[]string{slow(t, 201, "{N,0,0}", 0)}, []string{"#0"}, "open", ""}, {[]string{late(t), "{N,#0,#0}"}, []string{"!0"}, "open", ""},
	})
}

func TestTransProofs(t *testing.T) {
	number := []string{late(t)}
	equal := func(types ...string) []string { return append([]string{"N"}, types...) }
	last := []string{"#1", "#0"}
	transBuilder().checkCases(t, []buildCase{
		{steps(), last, "@<[N]{N,#5,#0},#0,#1>", "([N]{N,#5,#0} #2)"}, {steps(), []string{"#1", "!#3"}, "@<[N]{N,#5,#0},!#3,#1>", "([N]{N,#5,#0} #3)"}, {steps(), []string{"!#4", "#1"}, "@<[N]{N,#5,#0},#1,!#4>", "([N]{N,#5,#0} #3)"}, {nil, []string{"!0", "!0"}, "@<[N]{N,0,#0},!0,!0>", "([N]{N,0,#0} 0)"}, {[]string{"N", "{N,#0,#0}"}, []string{"#0", "#0"}, "@<[N]{N,#2,#0},#0,#0>", "([N]{N,#2,#0} #1)"}, {equal("{N,+#0,++#0}", "{N,++#1,0}"), last, "@<[N]{N,+#3,#0},#0,#1>", "([N]{N,+#3,#0} 0)"},
		// A type with free variables, and with binders.
		{abstract(), last, "@<[#5]{#6,#5,#0},#0,#1>", "([#5]{#6,#5,#0} #2)"}, {[]string{"*0", "(#0>#1)", "(#1>#2)", "{(#2>#3),#1,#0}", "{(#3>#4),#1,[#3]#0}"}, last, "@<[(#4>#5)]{(#5>#6),#4,#0},#0,#1>", "([(#4>#5)]{(#5>#6),#4,#0} [#4]#0)"}, {[]string{"{*0,N,(N>N)}", "{*0,(N>N),(N*N)}"}, last, "@<[*0]{*0,N,#0},#0,#1>", "([*0]{*0,N,#0} (N*N))"},
		// Sides that are convertible, but not equal.
		{equal("{N,#0,+0}", "{N,([N]+#0 0),++0}"), last, "@<[N]{N,#3,#0},#0,#1>", "([N]{N,#3,#0} ++0)"}, {equal("{N,#0,([N]#0 +#0)}", "{N,+([N]#0 #1),0}"), last, "@<[N]{N,#3,#0},#0,#1>", "([N]{N,#3,#0} 0)"}, {equal("{N,([N]#0 #0),([N]#0 0)}", "{N,0,([N]#0 0)}"), last, "@<[N]{N,([N]#0 #3),#0},#0,#1>", "([N]{N,([N]#0 #3),#0} ([N]#0 0))"},
		// Types that are convertible, but not equal.
		{equal("{([*0]#0 N),#0,+0}", "{N,+0,++0}"), last, "@<[N]{([*0]#0 N),#3,#0},#0,#1>", "([N]{([*0]#0 N),#3,#0} ++0)"}, {equal("{N,#0,+0}", "{([*0]#0 N),+0,++0}"), last, "@<[([*0]#0 N)]{N,#3,#0},#0,#1>", "([([*0]#0 N)]{N,#3,#0} ++0)"}, {equal("{([N]N #0),#0,+0}", "{^|(*0*N),N,0|,+0,#1}"), last, "@<[^|(*0*N),N,0|]{([N]N #3),#3,#0},#0,#1>", "([^|(*0*N),N,0|]{([N]N #3),#3,#0} #2)"},
		// Proofs whose types have the form only after reduction.
		{equal("([N]{N,#0,0} #0)", "<[N]*0,{N,0,+0},[N][*0]#0,+0>"), last, "@<[N]{N,#3,#0},#0,#1>", "([N]{N,#3,#0} +0)"},
		// Proofs that are themselves moved.
		{steps(), []string{"@<[N]{N,#0,#4},#0,!#3>", "@<[N]{N,#0,#5},#1,!#4>"}, "@<[N]{N,#3,#0},@<[N]{N,#0,#5},#1,!#4>,@<[N]{N,#0,#4},#0,!#3>>", "([N]{N,#3,#0} #4)"}, {steps(), []string{"@<[N]{N,#5,#0},#0,#1>", "@<[N]{N,#0,#4},#0,!#3>"}, "@<[N]{N,#5,#0},@<[N]{N,#0,#4},#0,!#3>,@<[N]{N,#5,#0},#0,#1>>", "([N]{N,#5,#0} #3)"}, {steps(), []string{"@<[N]{N,#0,#5},#1,!#4>", "#1"}, "@<[N]{N,#4,#0},#1,@<[N]{N,#0,#5},#1,!#4>>", "([N]{N,#4,#0} #3)"},
		// Sides that are not convertible.
		{steps(), []string{"#0", "#1"}, "bad", ""}, {steps(), []string{"#0", "#0"}, "bad", ""}, {steps(), []string{"#1", "#1"}, "bad", ""}, {nil, []string{"!0", "!+0"}, "bad", ""}, {equal("{N,#0,+0}", "{N,#1,+0}"), last, "bad", ""}, {equal("{N,#0,+0}", "{N,([N]#0 0),+0}"), last, "bad", ""},
		// Types that are not convertible.
		{[]string{"{N,0,0}", "{*0,N,N}"}, last, "bad", ""}, {nil, []string{"!0", "!!0"}, "bad", ""}, {nil, []string{"![N]#0", "![*0]#0"}, "bad", ""}, {[]string{"*0", "*0", "#0", "{#1,#0,#0}"}, []string{"#0", "!#2"}, "bad", ""},
		// The family has no type.
		{[]string{"{*2,*1,*1}", "{*2,*1,*1}"}, last, "bad", ""}, {[]string{"{*1,*0,*0}", "{*1,*0,*0}"}, last, "@<[*1]{*1,*0,#0},#0,#1>", "([*1]{*1,*0,#0} *0)"},
		{nil, []string{"0", "!0"}, "bad", ""}, {nil, []string{"!0", "0"}, "bad", ""}, {nil, []string{"*3", "!0"}, "bad", ""}, {nil, []string{"!0", "*3"}, "bad", ""}, {nil, []string{"[N]!#0", "!0"}, "bad", ""}, {nil, []string{"!0", "N"}, "bad", ""}, {[]string{"0"}, []string{"!0", "!0"}, "bad", ""},
		{number, []string{"!+#0", "!0"}, "open", ""}, {number, []string{"!0", "!+#0"}, "open", ""}, {number, []string{"#0", "!0"}, "open", ""}, {number, []string{"!#0", "!0"}, "open", ""}, {number, []string{"!0", "!#0"}, "open", ""}, {number, []string{"!#0", "!#0"}, "open", ""}, {[]string{late(t), "{N,#0,#0}"}, []string{"!0", "!0"}, "open", ""},
	})
}

func TestCongProofs(t *testing.T) {
	number := []string{late(t)}
	plus := "[N][N]<[N]N,#1,[N][N]+#0,#0>"
	one := "{N,0,+0}" // a type of the last variable
	congBuilder().checkCases(t, []buildCase{
		{steps(), []string{"[N]+#0", "#0"}, "@<[N]{N,([N]+#0 #4),([N]+#0 #0)},#0,!([N]+#0 #3)>", "([N]{N,([N]+#0 #4),([N]+#0 #0)} #2)"}, {nil, []string{"[N]0", "!0"}, "@<[N]{N,([N]0 0),([N]0 #0)},!0,!([N]0 0)>", "([N]{N,([N]0 0),([N]0 #0)} 0)"}, {[]string{"N", "(N>N)", "{N,#1,0}"}, []string{"#1", "#0"}, "@<[N]{N,(#2 #3),(#2 #0)},#0,!(#1 #2)>", "([N]{N,(#2 #3),(#2 #0)} 0)"}, {steps(), []string{"[N]<[N]N,#3,[N][N]+#0,#4>", "#0"}, "@<[N]{([N]N #4),([N]<[N]N,#4,[N][N]+#0,#5> #4),([N]<[N]N,#4,[N][N]+#0,#5> #0)},#0,!([N]<[N]N,#3,[N][N]+#0,#4> #3)>", "([N]{([N]N #4),([N]<[N]N,#4,[N][N]+#0,#5> #4),([N]<[N]N,#4,[N][N]+#0,#5> #0)} #2)"},
		// Types with free variables: that of the argument, and another one for the result.
		{[]string{"*0", "#0", "#1", "{#2,#1,#0}", "(#3>#4)"}, []string{"#0", "#1"}, "@<[#4]{#5,(#1 #4),(#1 #0)},#1,!(#0 #3)>", "([#4]{#5,(#1 #4),(#1 #0)} #2)"}, {[]string{"*0", "*0", "#1", "#2", "{#3,#1,#0}", "(#4>#4)"}, []string{"#0", "#1"}, "@<[#5]{#5,(#1 #4),(#1 #0)},#1,!(#0 #3)>", "([#5]{#5,(#1 #4),(#1 #0)} #2)"}, {[]string{"N", "(N>{N,#1,#1})", "{N,#1,0}"}, []string{"#1", "#0"}, "@<[N]{{N,#3,#3},(#2 #3),(#2 #0)},#0,!(#1 #2)>", "([N]{{N,#3,#3},(#2 #3),(#2 #0)} 0)"}, {[]string{"*0", "(N>#1)", one}, []string{"#1", "#0"}, "@<[N]{#3,(#2 0),(#2 #0)},#0,!(#1 0)>", "([N]{#3,(#2 0),(#2 #0)} +0)"},
		// Results that are functions and types.
		{[]string{"(N>(N>N))", one}, []string{"#1", "#0"}, "@<[N]{(N>N),(#2 0),(#2 #0)},#0,!(#1 0)>", "([N]{(N>N),(#2 0),(#2 #0)} +0)"}, {[]string{"(N>*0)", one}, []string{"#1", "#0"}, "@<[N]{*0,(#2 0),(#2 #0)},#0,!(#1 0)>", "([N]{*0,(#2 0),(#2 #0)} +0)"}, {[]string{"{*0,N,(N>N)}"}, []string{"[*0](#0*#1)", "#0"}, "@<[*0]{*0,([*0](#0*#1) N),([*0](#0*#1) #0)},#0,!([*0](#0*#1) N)>", "([*0]{*0,([*0](#0*#1) N),([*0](#0*#1) #0)} (N>N))"}, {[]string{"(N>{N,+0,+0})", one}, []string{"#1", "#0"}, "@<[N]{{N,+0,+0},(#2 0),(#2 #0)},#0,!(#1 0)>", "([N]{{N,+0,+0},(#2 0),(#2 #0)} +0)"},
		// A #0 in the type of the result that is another variable.
		{[]string{"(N>(*0>#0))", one}, []string{"#1", "#0"}, "@<[N]{(*0>#0),(#2 0),(#2 #0)},#0,!(#1 0)>", "([N]{(*0>#0),(#2 0),(#2 #0)} +0)"}, {[]string{one}, []string{plus, "#0"}, "@<[N]{(N>([N]N #0)),(" + plus + " 0),(" + plus + " #0)},#0,!(" + plus + " 0)>", "([N]{(N>([N]N #0)),(" + plus + " 0),(" + plus + " #0)} +0)"}, {[]string{"N", "(N>(N>{N,#0,#2}))", one}, []string{"#1", "#0"}, "@<[N]{(N>{N,#0,#4}),(#2 0),(#2 #0)},#0,!(#1 0)>", "([N]{(N>{N,#0,#4}),(#2 0),(#2 #0)} +0)"},
		// Functions and proofs whose types have the form only after reduction.
		{[]string{"([*0](#0>#1) N)", one}, []string{"#1", "#0"}, "@<[N]{N,(#2 0),(#2 #0)},#0,!(#1 0)>", "([N]{N,(#2 0),(#2 #0)} +0)"}, {[]string{"^|(*0*N),(N>N),0|", "([N]{N,#0,+0} 0)"}, []string{"#1", "#0"}, "@<[N]{N,(#2 0),(#2 #0)},#0,!(#1 0)>", "([N]{N,(#2 0),(#2 #0)} +0)"}, {[]string{"N", "([N](N>{N,#1,0}) #0)", one}, []string{"#1", "#0"}, "@<[N]{{N,#3,0},(#2 0),(#2 #0)},#0,!(#1 0)>", "([N]{{N,#3,0},(#2 0),(#2 #0)} +0)"},
		// Types that are convertible, but not equal.
		{[]string{one}, []string{"[([*0]#0 N)]+#0", "#0"}, "@<[N]{N,([([*0]#0 N)]+#0 0),([([*0]#0 N)]+#0 #0)},#0,!([([*0]#0 N)]+#0 0)>", "([N]{N,([([*0]#0 N)]+#0 0),([([*0]#0 N)]+#0 #0)} +0)"}, {[]string{"(N>N)", "{([*0]#0 N),0,+0}"}, []string{"#1", "#0"}, "@<[([*0]#0 N)]{N,(#2 0),(#2 #0)},#0,!(#1 0)>", "([([*0]#0 N)]{N,(#2 0),(#2 #0)} +0)"}, {[]string{"(N>([*0]#0 N))", one}, []string{"#1", "#0"}, "@<[N]{([*0]#0 N),(#2 0),(#2 #0)},#0,!(#1 0)>", "([N]{([*0]#0 N),(#2 0),(#2 #0)} +0)"},
		// Proofs that are themselves moved.
		{steps(), []string{"[N]+#0", "@<[N]{N,#0,#4},#0,!#3>"}, "@<[N]{N,([N]+#0 #3),([N]+#0 #0)},@<[N]{N,#0,#4},#0,!#3>,!([N]+#0 #2)>", "([N]{N,([N]+#0 #3),([N]+#0 #0)} #3)"}, {steps(), []string{"[N]+#0", "@<[N]{N,#5,#0},#0,#1>"}, "@<[N]{N,([N]+#0 #5),([N]+#0 #0)},@<[N]{N,#5,#0},#0,#1>,!([N]+#0 #4)>", "([N]{N,([N]+#0 #5),([N]+#0 #0)} #2)"}, {[]string{"N", "N", "(N>N)", "{N,#2,#1}"}, []string{"#1", "@<[N]{N,(#2 #4),(#2 #0)},#0,!(#1 #3)>"}, "@<[N]{N,(#2 (#2 #4)),(#2 #0)},@<[N]{N,(#2 #4),(#2 #0)},#0,!(#1 #3)>,!(#1 (#1 #3))>", "([N]{N,(#2 (#2 #4)),(#2 #0)} (#1 #2))"},
		// A type of the result that depends on the argument.
		{nil, []string{"[N]!#0", "!0"}, "bad", ""}, {[]string{"(N>{N,#0,0})", one}, []string{"#1", "#0"}, "bad", ""}, {[]string{"(N>(N>{N,#0,#1}))", one}, []string{"#1", "#0"}, "bad", ""}, {nil, []string{"[*0][#0]#0", "!N"}, "bad", ""}, {[]string{"([N](N>{N,#0,#1}) 0)", one}, []string{"#1", "#0"}, "bad", ""},
		// Also if it does not depend on it after reduction.
		{nil, []string{"[N]<[N]N,0,[N][N]#1,#0>", "!0"}, "bad", ""}, {nil, []string{"(" + plus + " 0)", "!0"}, "bad", ""}, {[]string{"(N>([N]N #0))", one}, []string{"#1", "#0"}, "bad", ""},
		// No function, or one of other arguments.
		{nil, []string{"0", "!0"}, "bad", ""}, {nil, []string{"N", "!0"}, "bad", ""}, {nil, []string{"(N>N)", "!0"}, "bad", ""}, {nil, []string{"!0", "!0"}, "bad", ""}, {nil, []string{"|(N*N),0,0|", "!0"}, "bad", ""}, {[]string{"(N>*0)", "(#0 0)"}, []string{"#0", "!0"}, "bad", ""}, {nil, []string{"*3", "!0"}, "bad", ""}, {nil, []string{"#0", "!0"}, "bad", ""}, {nil, []string{"[*0]0", "!0"}, "bad", ""}, {nil, []string{"[N]0", "!N"}, "bad", ""}, {nil, []string{"[{N,0,0}]0", "!0"}, "bad", ""}, {[]string{"*0", "*0", "#0", "{#1,#0,#0}"}, []string{"[#3]0", "#0"}, "bad", ""},
		// The family has no type.
		{[]string{"(N>*1)", one}, []string{"#1", "#0"}, "@<[N]{*1,(#2 0),(#2 #0)},#0,!(#1 0)>", "([N]{*1,(#2 0),(#2 #0)} +0)"}, {[]string{"(N>*2)", one}, []string{"#1", "#0"}, "bad", ""}, {[]string{"{*2,*1,*1}"}, []string{"[*2]N", "#0"}, "@<[*2]{*0,([*2]N *1),([*2]N #0)},#0,!([*2]N *1)>", "([*2]{*0,([*2]N *1),([*2]N #0)} *1)"},
		{nil, []string{"[N]0", "0"}, "bad", ""}, {nil, []string{"[N]0", "*3"}, "bad", ""}, {nil, []string{"[N]0", "N"}, "bad", ""}, {[]string{"0"}, []string{"[N]0", "!0"}, "bad", ""},
		{number, []string{"[N]0", "!+#0"}, "open", ""}, {number, []string{"[N]0", "#0"}, "open", ""}, {number, []string{"[N]+#1", "!0"}, "open", ""}, {number, []string{"#0", "!0"}, "open", ""}, {number, []string{"[N]0", "!#0"}, "open", ""}, {number, []string{"[" + late(t) + "]0", "!0"}, "open", ""}, {[]string{late(t), "{N,#0,#0}"}, []string{"[N]0", "!0"}, "open", ""},
		// The type of the argument is only compared.
		{number, []string{"[" + late(t) + "]0", "!#0"}, "@<[" + late(t) + "]{N,([" + late(t) + "]0 #1),([" + late(t) + "]0 #0)},!#0,!([" + late(t) + "]0 #0)>", "([" + late(t) + "]{N,([" + late(t) + "]0 #1),([" + late(t) + "]0 #0)} #0)"},
	})
}

func TestTypesOfEqualities(t *testing.T) {
	number := []string{late(t)}
	recursion := "<[N]N,0,[N][N]#0,+0>"
	idBuilder().checkCases(t, []buildCase{
		{steps(), []string{"+#2", "#3"}, "{N,+#2,#3}", "*0"}, {nil, []string{"0", "+0"}, "{N,0,+0}", "*0"}, {nil, []string{"N", "(N>N)"}, "{*0,N,(N>N)}", "*1"}, {nil, []string{"*1", "*1"}, "{*2,*1,*1}", "*3"}, {nil, []string{"[N]#0", "[N]+#0"}, "{(N>N),[N]#0,[N]+#0}", "*0"}, {nil, []string{"!0", "!0"}, "{{N,0,0},!0,!0}", "*0"}, {abstract(), []string{"#4", "#2"}, "{#5,#4,#2}", "*0"}, {abstract(), []string{"#1", "#1"}, "{{#5,#4,#3},#1,#1}", "*0"}, {steps(), []string{"#0", "@<[N]{N,#0,#4},#0,!#3>"}, "bad", ""}, {steps(), []string{"#1", "@<[N]{N,#5,#0},#1,!#4>"}, "{{N,#4,#3},#1,@<[N]{N,#5,#0},#1,!#4>}", "*0"},
		// Types that are convertible, but not equal: the first one counts, as it is.
		{[]string{"N", "([*0]#0 N)"}, []string{"#1", "#0"}, "{N,#1,#0}", "*0"}, {[]string{"N", "([*0]#0 N)"}, []string{"#0", "#1"}, "{([*0]#0 N),#0,#1}", "*0"}, {nil, []string{recursion, "0"}, "{([N]N +0)," + recursion + ",0}", "*0"}, {nil, []string{"0", recursion}, "{N,0," + recursion + "}", "*0"}, {nil, []string{"!([N]#0 0)", "!0"}, "{{N,([N]#0 0),([N]#0 0)},!([N]#0 0),!0}", "*0"}, {[]string{"([*1]#0 *0)"}, []string{"#0", "N"}, "{([*1]#0 *0),#0,N}", "*1"},
		// Types that are equal need no reduction, and terms are not reduced.
		{number, []string{"#0", "#0"}, "{" + late(t) + ",#0,#0}", "*0"}, {nil, []string{slowTerm(t, 201, "0", "N"), "0"}, "{([N]N ++++++++0)," + slowTerm(t, 201, "0", "N") + ",0}", "*0"},
		{nil, []string{"0", "N"}, "bad", ""}, {nil, []string{"N", "0"}, "bad", ""}, {nil, []string{"0", "!0"}, "bad", ""}, {nil, []string{"N", "*0"}, "bad", ""}, {nil, []string{"*0", "N"}, "bad", ""}, {nil, []string{"[N]#0", "[*0]#0"}, "bad", ""}, {nil, []string{"!0", "!+0"}, "bad", ""}, {[]string{"*0", "*0", "#1", "#1"}, []string{"#1", "#0"}, "bad", ""},
		{nil, []string{"0", "*3"}, "bad", ""}, {nil, []string{"0", "#0"}, "bad", ""}, {nil, []string{"*3", "0"}, "bad", ""}, {nil, []string{"#0", "0"}, "bad", ""}, {nil, []string{"+N", "0"}, "bad", ""}, {[]string{"0"}, []string{"0", "0"}, "bad", ""}, {nil, []string{"*2", "*2"}, "bad", ""}, {nil, []string{"(*2>N)", "(*2>N)"}, "bad", ""},
		{number, []string{"0", "#0"}, "open", ""}, {number, []string{"#0", "0"}, "open", ""}, {number, []string{"+#0", "0"}, "open", ""}, {number, []string{"0", "+#0"}, "open", ""}, {[]string{late(t), "{N,#0,#0}"}, []string{"0", "0"}, "open", ""},
		// Whether the first type is a type comes before the second term.
		{number, []string{"*2", "+#0"}, "bad", ""}, {[]string{"*0", deepVar()}, []string{"#0", "*3"}, "open", ""}, {[]string{"*0", deepVar()}, []string{"#0", "#0"}, "open", ""},
	})
}

// argument is a term for one place of a call, with the code for which it is
// responsible.
type argument struct {
	x    impl.Term
	code int
}

// argumentsFor has arguments that are fine together, and others.
func argumentsFor(t *testing.T, fine string, bad, open []string) []argument {
	t.Helper()
	list := []argument{{parse(t, fine), impl.TypeOk}, {mk(77), impl.TypeInvalid}, {variable(21), impl.TypeInvalid}, {impl.Term{}, impl.TypeInvalid}, {succs(30, zero()), impl.TypeInvalid}}
	for _, x := range parseAll(t, bad) {
		list = append(list, argument{x, impl.TypeBad})
	}
	for _, x := range parseAll(t, open) {
		list = append(list, argument{x, impl.TypeOpen})
	}
	return list
}

// The first code is that of the argument that is treated first, also if
// another one is not valid.
func TestOrderOfArguments(t *testing.T) {
	ctx := parseAll(t, []string{late(t)})
	proofs := argumentsFor(t, "!0", []string{"0", "*3", "[N]!#0", "#20"}, []string{"!+#0", "#0"})
	functions := argumentsFor(t, "[N]0", []string{"0", "*3", "[N]!#0", "[*0]0", "#20"}, []string{"[N]+#1", "#0", "[" + late(t) + "]0"})
	left := argumentsFor(t, "0", []string{"*3", "+N", "#20"}, []string{"+#0"})
	right := argumentsFor(t, "0", []string{"*3", "N", "#20"}, []string{"+#0", "#0"})
	for _, c := range []struct {
		b             builder
		first, second []argument
	}{{transBuilder(), proofs, proofs}, {congBuilder(), proofs, functions}, {idBuilder(), left, right}} {
		for _, x := range c.first {
			for _, y := range c.second {
				args, want := []impl.Term{x.x, y.x}, x.code
				if c.b.first == 1 {
					slices.Reverse(args)
				}
				if want == impl.TypeOk {
					want = y.code
				}
				if _, code := c.b.check(t, ctx, args...); code != want {
					t.Errorf("%s = %d, want %d", c.b.said(ctx, args), code, want)
				}
			}
		}
	}
	// The second term of IdType is valid before the type of the first one is
	// a type.
	for _, b := range []impl.Term{mk(77), variable(21), succs(30, zero())} {
		idBuilder().checkCode(t, impl.TypeInvalid, ctx, sort(2), b)
		idBuilder().checkCode(t, impl.TypeInvalid, parseAll(t, []string{"*0", deepVar()}), variable(0), b)
		idBuilder().checkCode(t, impl.TypeBad, ctx, sort(3), b)
	}
}

// A context that is not valid, and a first argument that is not, go before the
// types of the context, and these before the other argument.
func TestOrderOfContexts(t *testing.T) {
	for _, c := range []struct {
		ctx  []impl.Term
		want int
	}{
		{parseAll(t, []string{"0"}), impl.TypeBad}, {parseAll(t, []string{"N", "#0"}), impl.TypeBad}, {parseAll(t, []string{"*3"}), impl.TypeBad}, {parseAll(t, []string{late(t), "{N,#0,#0}"}), impl.TypeOpen}, {parseAll(t, []string{late(t), "{N,#0,#0}", "0"}), impl.TypeOpen}, {parseAll(t, []string{late(t), "0", "{N,#1,#1}"}), impl.TypeBad},
		{[]impl.Term{mk(77)}, impl.TypeInvalid}, {[]impl.Term{zero(), variable(21)}, impl.TypeInvalid}, {slices.Repeat([]impl.Term{nat()}, 9), impl.TypeInvalid}, {slices.Repeat([]impl.Term{zero()}, 9), impl.TypeInvalid}, {make([]impl.Term, 9), impl.TypeInvalid},
	} {
		for _, x := range []impl.Term{parse(t, "!0"), zero(), sort(3), parse(t, "!+#0"), parse(t, "[N]0")} {
			checkSides(t, c.ctx, x, nil, c.want)
			checkSides(t, c.ctx, mk(77), nil, impl.TypeInvalid)
			for _, b := range builders() {
				args := slices.Repeat([]impl.Term{x}, b.arity)
				b.checkCode(t, c.want, c.ctx, args...)
				if b.arity == 2 {
					args[1-b.first] = mk(77)
					b.checkCode(t, c.want, c.ctx, args...)
				}
				args[b.first] = variable(21)
				b.checkCode(t, impl.TypeInvalid, c.ctx, args...)
			}
			checkEquality(t, c.ctx, x, mk(77))
		}
	}
}

// Two conditions hold, neither of them for one argument alone.
func TestOrderOfComparisons(t *testing.T) {
	number, late := slowTerm(t, 201, "0", "N"), late(t)
	wide := textOf(wideNumber(t, 393))
	level := func(nodes int) string { return "(*1>" + textOf(wideType(t, nodes-2)) + ")" } // has the type `*2`
	last := []string{"#1", "#0"}
	transBuilder().checkCases(t, []buildCase{
		// The types, and then the sides.
		{[]string{"{N,0," + number + "}", "{*0,N,N}"}, last, "bad", ""}, {[]string{late, "{" + late + ",#0,#0}", "{N,0,0}"}, last, "open", ""}, {[]string{late, "{N,0,0}", "{" + late + ",#1,#1}"}, last, "open", ""}, {[]string{"{N,0," + number + "}", "{N,0,0}"}, last, "open", ""}, {[]string{"{N,0,0}", "{N," + number + ",0}"}, last, "open", ""}, {[]string{"{N,0,0}", "{N,+0,0}"}, last, "bad", ""},
		// The sides, and then the result.
		{[]string{"{N," + wide + ",0}", "{N,+0,0}"}, last, "bad", ""}, {[]string{"{N," + wide + ",0}", "{N,0,0}"}, last, "open", ""}, {[]string{"{N," + wide + ",0}", "{*0,N,N}"}, last, "bad", ""}, {[]string{"{*2,*1,N}", "{*2,*0,*1}"}, last, "bad", ""},
		// A result that is not valid, and then one without a type.
		{[]string{"{*2," + level(389) + ",*1}", "{*2,*1,*1}"}, last, "bad", ""}, {[]string{"{*2," + level(393) + ",*1}", "{*2,*1,*1}"}, last, "open", ""},
	})
	symBuilder().checkCases(t, []buildCase{{[]string{"{*2," + level(196) + ",*1}"}, []string{"#0"}, "bad", ""}, {[]string{"{*2," + level(197) + ",*1}"}, []string{"#0"}, "open", ""}})
	huge := textOf(wideNumber(t, 399))
	idBuilder().checkCases(t, []buildCase{
		// The type of the second term, and then the result.
		{nil, []string{huge, "N"}, "bad", ""}, {nil, []string{huge, "*3"}, "bad", ""}, {nil, []string{huge, "0"}, "open", ""}, {nil, []string{"0", huge}, "open", ""}, {nil, []string{"N", huge}, "bad", ""}, {nil, []string{"(*2>" + textOf(wideType(t, 390)) + ")", "*1"}, "bad", ""},
	})
	congBuilder().checkCases(t, []buildCase{
		// The form of the type of f, what its result depends on, and then the argument.
		{nil, []string{"[" + late + "]!#0", "!0"}, "bad", ""}, {[]string{slow(t, 201, "(*0>N)", 1)}, []string{"#0", "!0"}, "open", ""}, {[]string{slow(t, 201, "(N>{N,#0,#0})", 0)}, []string{"#0", "!0"}, "open", ""}, {nil, []string{"[" + late + "]0", "!0"}, "open", ""}, {nil, []string{"[*0]!#0", "!0"}, "bad", ""}, {[]string{"(N>*2)", "{N," + wide + ",0}"}, last, "open", ""}, {[]string{"(N>*2)", "{N,0," + wide + "}"}, last, "bad", ""}, {[]string{"(*0>N)", "{N," + wide + ",0}"}, last, "bad", ""}, {[]string{"(N>{N,#0,#0})", "{N," + wide + ",0}"}, last, "bad", ""},
	})
}

// Each HeadNormal and each Convertible, with the last number of steps that
// they may take and the first one that they may not. Where the second of the
// three words differs from the first one, the type of the result is not
// inferred.
func TestStepsOfProofs(t *testing.T) {
	for _, c := range []struct {
		b    builder
		x    string // S is reduced to it
		is   string
		ctx  []string
		args []string
		want []string // with 199, 200 and 201 steps
	}{
		// The type of a proof, of the whole equality, and of its sides.
		{symBuilder(), "{N,0,0}", "*0", []string{"S"}, []string{"#0"}, []string{"ok", "ok", "open"}}, {symBuilder(), "N", "*0", []string{"{S,0,0}"}, []string{"#0"}, []string{"ok", "open", "open"}}, {symBuilder(), "0", "N", []string{"{N,0,S}"}, []string{"#0"}, []string{"ok", "ok", "ok"}},
		{transBuilder(), "{N,0,0}", "*0", []string{"S", "{N,0,0}"}, []string{"#1", "#0"}, []string{"ok", "ok", "open"}}, {transBuilder(), "{N,0,0}", "*0", []string{"{N,0,0}", "S"}, []string{"#1", "#0"}, []string{"ok", "ok", "open"}},
		{congBuilder(), "{N,0,0}", "*0", []string{"(N>N)", "S"}, []string{"#1", "#0"}, []string{"ok", "ok", "open"}}, {congBuilder(), "(N>N)", "*0", []string{"S", "{N,0,0}"}, []string{"#1", "#0"}, []string{"ok", "ok", "open"}}, {congBuilder(), "(*0>N)", "*1", []string{"S", "{N,0,0}"}, []string{"#1", "#0"}, []string{"bad", "bad", "open"}}, {congBuilder(), "(N>{N,#0,0})", "*0", []string{"S", "{N,0,0}"}, []string{"#1", "#0"}, []string{"bad", "bad", "open"}},
		// The types of both equalities.
		{transBuilder(), "N", "*0", []string{"{S,0,0}", "{N,0,0}"}, []string{"#1", "#0"}, []string{"ok", "open", "open"}}, {transBuilder(), "N", "*0", []string{"{N,0,0}", "{S,0,0}"}, []string{"#1", "#0"}, []string{"ok", "ok", "open"}}, {transBuilder(), "N", "*0", []string{"S", "{S,#0,#0}", "{N,0,0}"}, []string{"#1", "#0"}, []string{"bad", "bad", "open"}}, {transBuilder(), "N", "*0", []string{"S", "{N,0,0}", "{S,#1,#1}"}, []string{"#1", "#0"}, []string{"bad", "bad", "open"}}, {transBuilder(), "N", "*0", []string{"S", "{S,#0,#0}"}, []string{"#0", "#0"}, []string{"ok", "open", "open"}},
		// All four sides.
		{transBuilder(), "0", "N", []string{"{N,S,0}", "{N,0,0}"}, []string{"#1", "#0"}, []string{"ok", "open", "open"}}, {transBuilder(), "0", "N", []string{"{N,0,S}", "{N,0,0}"}, []string{"#1", "#0"}, []string{"ok", "ok", "open"}}, {transBuilder(), "0", "N", []string{"{N,0,0}", "{N,S,0}"}, []string{"#1", "#0"}, []string{"ok", "open", "open"}}, {transBuilder(), "0", "N", []string{"{N,0,0}", "{N,0,S}"}, []string{"#1", "#0"}, []string{"ok", "ok", "ok"}}, {transBuilder(), "0", "N", []string{"{N,0,S}", "{N,S,0}"}, []string{"#1", "#0"}, []string{"ok", "open", "open"}}, {transBuilder(), "0", "N", []string{"{N,0,S}", "{N,+0,0}"}, []string{"#1", "#0"}, []string{"bad", "bad", "open"}},
		// The type of the argument, of the sides, and of the result.
		{congBuilder(), "N", "*0", []string{"(S>N)", "{N,0,0}"}, []string{"#1", "#0"}, []string{"ok", "ok", "open"}}, {congBuilder(), "N", "*0", []string{"S", "{S,#0,#0}", "(N>N)"}, []string{"#0", "#1"}, []string{"ok", "ok", "open"}}, {congBuilder(), "N", "*0", []string{"S", "{S,#0,#0}", "(S>N)"}, []string{"#0", "#1"}, []string{"ok", "ok", "ok"}}, {congBuilder(), "N", "*0", []string{"(N>S)", "{N,0,0}"}, []string{"#1", "#0"}, []string{"ok", "open", "open"}}, {congBuilder(), "0", "N", []string{"(N>N)", "{N,0,S}"}, []string{"#1", "#0"}, []string{"ok", "ok", "ok"}},
		{idBuilder(), "N", "*0", []string{"S", "N"}, []string{"#1", "#0"}, []string{"ok", "ok", "open"}}, {idBuilder(), "N", "*0", []string{"S", "N"}, []string{"#0", "#1"}, []string{"ok", "ok", "open"}}, {idBuilder(), "N", "*0", []string{"S"}, []string{"#0", "#0"}, []string{"ok", "ok", "ok"}}, {idBuilder(), "0", "N", nil, []string{"S", "0"}, []string{"ok", "ok", "ok"}}, {idBuilder(), "*0", "*1", []string{"S", "#0"}, []string{"#0", "#0"}, []string{"ok", "ok", "open"}}, {idBuilder(), "*0", "*1", []string{"S", "S"}, []string{"#0", "N"}, []string{"ok", "ok", "open"}},
	} {
		for i, steps := range []int{199, 200, 201} {
			late := slowTerm(t, steps, c.x, c.is)
			filled := func(texts []string) (list []impl.Term) {
				for _, text := range texts {
					list = append(list, parse(t, strings.ReplaceAll(text, "S", late)))
				}
				return list
			}
			ctx, args := filled(c.ctx), filled(c.args)
			if _, code := c.b.check(t, ctx, args...); code != codeOf(c.want[i]) {
				t.Errorf("%s of %s and %s = %d with %d steps, want %s", c.b.name, c.ctx, c.args, code, steps, c.want[i])
			}
			if len(args) == 1 {
				checkEquality(t, ctx, args...)
			}
		}
	}
}

// The proof `!A` of a SymProof is compared with a type that has A twice.
func TestStepsOfBothSides(t *testing.T) {
	for steps := 97; steps <= 103; steps++ {
		ctx := parseAll(t, []string{"{N," + slowTerm(t, steps, "0", "N") + ",0}"})
		want := impl.TypeOk
		if steps > 99 {
			want = impl.TypeOpen
		}
		if _, code := symBuilder().check(t, ctx, variable(0)); code != want {
			t.Errorf("SymProof of a side with %d steps = %d, want %d", steps, code, want)
		}
		if _, code := sidesOf(ctx, variable(0)); code != impl.TypeOk {
			t.Errorf("SidesOf of a side with %d steps = %d", steps, code)
		}
	}
}

// fitCase has a closed type T and a closed number W in its texts. The result
// and its type are valid up to the size fits of both.
type fitCase struct {
	b    builder
	ctx  []string
	args []string
	fits int
}

func checkFits(t *testing.T, cases []fitCase, typeText, numberText func(size int) string) {
	t.Helper()
	for _, c := range cases {
		for size := c.fits - 3; size <= c.fits+3; size++ {
			filled := func(texts []string) (list []impl.Term) {
				for _, text := range texts {
					x, _ := impl.ParseTerm(strings.NewReplacer("T", typeText(size), "W", numberText(size)).Replace(text)) // the zero value, if it is too large
					list = append(list, x)
				}
				return list
			}
			ctx, args := filled(c.ctx), filled(c.args)
			want := impl.TypeOk
			switch {
			case anyInvalid(ctx...) || anyInvalid(args...):
				want = impl.TypeInvalid
			case size > c.fits:
				want = impl.TypeOpen
			}
			if _, code := c.b.check(t, ctx, args...); code != want {
				t.Errorf("%s of %s and %s, with a size of %d, is %d, want %d", c.b.name, c.ctx, c.args, size, code, want)
			}
			if list, code := sidesOf(ctx, args[0]); c.b.arity == 1 && want != impl.TypeInvalid && code != impl.TypeOk {
				t.Errorf("SidesOf of %s, with a size of %d, is %s, %d", c.ctx, size, textsOf(list), code)
			}
		}
	}
}

func TestProofsWithTooManyNodes(t *testing.T) {
	last, first := []string{"#1", "#0"}, []string{"#0"}
	checkFits(t, []fitCase{
		{symBuilder(), []string{"{N,W,0}"}, first, 196}, {symBuilder(), []string{"{N,0,W}"}, first, 393}, {symBuilder(), []string{"T", "{T,#0,#0}"}, first, 196}, {symBuilder(), nil, []string{"!W"}, 130}, {symBuilder(), []string{"(N>{N,0,0})"}, []string{"(#0 W)"}, 389},
		{transBuilder(), []string{"{N,W,0}", "{N,0,0}"}, last, 392}, {transBuilder(), []string{"{N,0,W}", "{N,W,0}"}, last, 393}, {transBuilder(), []string{"{N,0,0}", "{N,0,W}"}, last, 393}, {transBuilder(), []string{"T", "{T,#0,#0}", "{T,#1,#1}"}, last, 196}, {transBuilder(), nil, []string{"!W", "!W"}, 130}, {transBuilder(), []string{"(N>{N,0,0})"}, []string{"(#0 W)", "!0"}, 389}, {transBuilder(), []string{"(N>{N,0,0})"}, []string{"!0", "(#0 W)"}, 389},
		{congBuilder(), []string{"(N>N)", "{N,W,0}"}, last, 193}, {congBuilder(), []string{"(N>N)", "{N,0,W}"}, last, 389}, {congBuilder(), []string{"{N,0,0}"}, []string{"[N]W", "#0"}, 127}, {congBuilder(), []string{"(N>T)", "{N,0,0}"}, last, 385}, {congBuilder(), []string{"T", "{T,#0,#0}"}, []string{"[T]0", "#0"}, 95},
		{idBuilder(), nil, []string{"W", "W"}, 199}, {idBuilder(), nil, []string{"W", "0"}, 397}, {idBuilder(), nil, []string{"0", "W"}, 397}, {idBuilder(), []string{"T"}, []string{"#0", "#0"}, 397},
	}, func(nodes int) string { return textOf(wideType(t, nodes)) }, func(nodes int) string { return textOf(wideNumber(t, nodes)) })
}

func TestProofsThatAreTooDeep(t *testing.T) {
	last, first := []string{"#1", "#0"}, []string{"#0"}
	checkFits(t, []fitCase{
		{symBuilder(), []string{"{N,W,0}"}, first, 27}, {symBuilder(), []string{"{N,0,W}"}, first, 29}, {symBuilder(), []string{"T", "{T,#0,#0}"}, first, 27}, {symBuilder(), []string{"(N>{N,0,0})"}, []string{"(#0 W)"}, 28}, {symBuilder(), nil, []string{"!W"}, 27},
		{transBuilder(), []string{"{N,W,0}", "{N,0,0}"}, last, 27}, {transBuilder(), []string{"{N,0,W}", "{N,W,0}"}, last, 29}, {transBuilder(), []string{"T", "{T,#0,#0}", "{T,#1,#1}"}, last, 27}, {transBuilder(), []string{"(N>{N,0,0})"}, []string{"(#0 W)", "!0"}, 28}, {transBuilder(), []string{"(N>{N,0,0})"}, []string{"!0", "(#0 W)"}, 28},
		{congBuilder(), []string{"(N>N)", "{N,W,0}"}, last, 26}, {congBuilder(), []string{"(N>N)", "{N,0,W}"}, last, 29}, {congBuilder(), []string{"{N,0,0}"}, []string{"[N]W", "#0"}, 25}, {congBuilder(), []string{"(N>T)", "{N,0,0}"}, last, 27},
		{idBuilder(), nil, []string{"W", "W"}, 29}, {idBuilder(), nil, []string{"0", "W"}, 29}, {idBuilder(), []string{"T"}, []string{"#0", "#0"}, 29},
	}, func(depth int) string { return textOf(deepType(depth)) }, func(depth int) string { return textOf(succs(depth-1, zero())) })
}

// A proof of a proof of a proof has one more level each time.
func TestNestedProofs(t *testing.T) {
	ctx := parseAll(t, []string{"N", "N", "{N,#1,#0}"})
	sides := parseAll(t, []string{"N", "#2", "#1"})
	e := variable(0)
	for times := 1; ; times++ {
		checkSides(t, ctx, e, sides, impl.TypeOk)
		next, code := symBuilder().check(t, ctx, e)
		if impl.TermDepth(e) == impl.MaxDepth {
			if code != impl.TypeOpen || times != 28 {
				t.Errorf("SymProof for the time %d = %s, %d", times, textOrZero(next), code)
			}
			return
		}
		if code != impl.TypeOk || impl.TermDepth(next) != times+3 {
			t.Fatalf("SymProof of %s = %s, %d", said(ctx, e), textOrZero(next), code)
		}
		e = next
		slices.Reverse(sides[1:])
	}
}

// The number of types of a context, with a proof that refers to the first one.
func TestProofsInLongContexts(t *testing.T) {
	for types := range 12 {
		ctx := slices.Repeat([]impl.Term{nat()}, types)
		for n := range 10 {
			e, f := mk(impl.TermRefl, variable(n)), parse(t, "[N]+#0")
			want := impl.TypeOk
			switch {
			case types > 8:
				want = impl.TypeInvalid
			case n >= types:
				want = impl.TypeBad
			}
			checkSides(t, ctx, e, []impl.Term{nat(), variable(n), variable(n)}, want)
			for _, c := range []struct {
				b    builder
				args []impl.Term
			}{{symBuilder(), []impl.Term{e}}, {transBuilder(), []impl.Term{e, e}}, {congBuilder(), []impl.Term{f, e}}, {idBuilder(), []impl.Term{variable(n), zero()}}, {idBuilder(), []impl.Term{zero(), variable(n)}}} {
				if _, code := c.b.check(t, ctx, c.args...); code != want {
					t.Errorf("%s = %d with %d types, want %d", c.b.said(nil, c.args), code, types, want)
				}
			}
		}
	}
	long := make([]impl.Term, 1<<16)
	checkSides(t, long, parse(t, "!0"), nil, impl.TypeInvalid)
	for _, b := range builders() {
		b.checkCode(t, impl.TypeInvalid, long, parse(t, "!0"), parse(t, "!0"))
	}
	for _, ctx := range [][]impl.Term{nil, {}, make([]impl.Term, 0, 4)} {
		checkEquality(t, ctx, parse(t, "!0"), parse(t, "[N]#0"))
	}
}

// The family of a proof is one binder more around the type, so that a context
// with more than MaxIndex types may be needed.
func TestProofsOverTypesWithManyBinders(t *testing.T) {
	for types := 2; types <= 8; types++ {
		for binders := 18 - types; binders <= min(19, 22-types); binders++ {
			over := parse(t, chain("(N>", binders, "N", ")"))
			ctx := []impl.Term{over, mk(impl.TermId, over, variable(0), variable(0))}
			for len(ctx) < types {
				ctx = append(ctx, nat())
			}
			x, e := variable(types-1), variable(types-2)
			checkSides(t, ctx, e, []impl.Term{over, x, x}, impl.TypeOk)
			for _, c := range []struct {
				b    builder
				args []impl.Term
				most int // types and binders
			}{{symBuilder(), []impl.Term{e}, 19}, {transBuilder(), []impl.Term{e, e}, 19}, {congBuilder(), []impl.Term{mk(impl.TermLam, over, zero()), e}, 19}, {idBuilder(), []impl.Term{x, x}, 20}} {
				want := impl.TypeOk
				if types+binders > c.most {
					want = impl.TypeOpen
				}
				if _, code := c.b.check(t, ctx, c.args...); code != want {
					t.Errorf("%s = %d, want %d", c.b.said(ctx, c.args), code, want)
				}
			}
		}
	}
}

// Sides whose variables are as great as they may be cannot be moved below a
// binder.
func TestProofsWithTheGreatestVariables(t *testing.T) {
	inner := deepVar()
	once := strings.Replace(inner, "19", "20", 1) // moved by 1
	ctx := parseAll(t, []string{"*0", "{*0," + inner + "," + inner + "}", "(*0>*0)"})
	checkSides(t, ctx[:2], variable(0), parseAll(t, []string{"*0", once, once}), impl.TypeOk)
	checkSides(t, ctx, variable(1), nil, impl.TypeOpen)
	symBuilder().checkCode(t, impl.TypeOpen, ctx[:2], variable(0))
	transBuilder().checkCode(t, impl.TypeOpen, ctx[:2], variable(0), variable(0))
	congBuilder().checkCode(t, impl.TypeOpen, ctx[:2], parse(t, "[*0]#0"), variable(0))
	congBuilder().checkCode(t, impl.TypeOpen, ctx, variable(0), variable(1))
	checkEquality(t, ctx[:2], variable(0), parse(t, "[*0]#0"), parse(t, "!*0"))
	checkEquality(t, ctx, variable(1), variable(0))
}

func TestProofsOfInvalidTerms(t *testing.T) {
	list := append(invalidTerms(), mk(77), sized(401), succs(30, zero()), mk(impl.TermRefl), mk(impl.TermRefl, zero(), zero()), mk(impl.TermRefl, mk(77)), ring(3, impl.TermRefl), doubled(40, zero()))
	for _, x := range list {
		for _, texts := range [][]string{nil, steps(), {"0"}, {late(t), "{N,#0,#0}"}} {
			ctx := parseAll(t, texts)
			checkSides(t, ctx, x, nil, impl.TypeInvalid)
			for _, b := range builders() {
				for _, other := range []impl.Term{parse(t, "!0"), parse(t, "[N]0"), sort(3), x} {
					args := []impl.Term{other, other}
					args[b.first] = x
					b.checkCode(t, impl.TypeInvalid, ctx, args...)
				}
			}
			for place := range len(ctx) + 1 {
				longer := slices.Insert(slices.Clone(ctx), place, x)
				checkSides(t, longer, parse(t, "!0"), nil, impl.TypeInvalid)
				for _, b := range builders() {
					b.checkCode(t, impl.TypeInvalid, longer, parse(t, "!0"), parse(t, "!0"))
				}
			}
		}
		transBuilder().checkCode(t, impl.TypeInvalid, nil, parse(t, "!0"), x)
		congBuilder().checkCode(t, impl.TypeInvalid, nil, x, parse(t, "!0"))
		idBuilder().checkCode(t, impl.TypeInvalid, nil, zero(), x)
	}
}

func TestProofsShareNoMemory(t *testing.T) {
	for _, c := range []struct {
		b    builder
		ctx  []string
		args []string
	}{
		{symBuilder(), []string{"(N>N)", "{(N>N),#0,[N]+#0}"}, []string{"#0"}}, {symBuilder(), []string{"N"}, []string{"!+#0"}}, {symBuilder(), nil, []string{"!|(N*N),+0,+0|"}}, {symBuilder(), []string{"N", "([N]{N,+#0,++#0} #0)"}, []string{"#0"}}, {symBuilder(), steps(), []string{"@<[N]{N,#0,#4},#0,!#3>"}},
		{transBuilder(), []string{"N", "{N,+#0,+0}", "{N,+0,++#1}"}, []string{"#1", "#0"}}, {transBuilder(), nil, []string{"!(N>N)", "!(N>N)"}}, {transBuilder(), []string{"{([*0]#0 N),+0,+0}", "{N,+0,+0}"}, []string{"#1", "#0"}},
		{congBuilder(), []string{"(N>(N>N))", "{N,+0,++0}"}, []string{"#1", "#0"}}, {congBuilder(), nil, []string{"[N]+#0", "!+0"}}, {congBuilder(), []string{"N", "(N>{N,+#1,#1})", "{N,+#1,+0}"}, []string{"#1", "#0"}},
		{idBuilder(), []string{"(N>N)"}, []string{"#0", "[N]+#0"}}, {idBuilder(), nil, []string{"!+0", "!+0"}}, {idBuilder(), []string{"{(N>N),[N]#0,[N]#0}"}, []string{"#0", "#0"}},
	} {
		store := append(parseAll(t, c.ctx), mk(77), nat())
		ctx, args := store[:len(c.ctx)], parseAll(t, c.args)
		unchanged := func() bool {
			return slices.EqualFunc(ctx, parseAll(t, c.ctx), equalTerm) && slices.EqualFunc(args, parseAll(t, c.args), equalTerm) && store[len(ctx)].Kind == 77 && store[len(ctx)+1].Kind == impl.TermNat
		}
		checkLists(t, c.b.said(ctx, args), func() []impl.Term {
			got, code := c.b.call(ctx, args...)
			if code != impl.TypeOk {
				t.Errorf("the test is wrong: %s = %d", c.b.said(ctx, args), code)
			}
			return []impl.Term{got}
		}, unchanged)
		for _, e := range args {
			checkLists(t, "SidesOf", func() []impl.Term {
				list, _ := sidesOf(ctx, e)
				return list
			}, unchanged)
		}
		// Results of different functions, one after the other.
		checkLists(t, "all functions", func() (all []impl.Term) {
			for _, b := range builders() {
				got, _ := b.call(ctx, args[0], args[len(args)-1])
				list, _ := sidesOf(ctx, args[0])
				all = append(all, got)
				all = append(all, list...)
			}
			return all
		}, unchanged)
		// Refused calls do not change anything, either.
		for _, b := range builders() {
			b.call(store, args[0], args[len(args)-1])
			b.call(ctx, mk(77), mk(77))
			b.call(ctx, args[0], mk(77))
			b.call(ctx, mk(77), args[0])
		}
		if !unchanged() {
			t.Errorf("arguments of %s are changed", c.b.said(ctx, args))
		}
	}
}

// The arguments, the types of the context and their operands may share memory
// with each other.
func TestProofsOfSharedTerms(t *testing.T) {
	for levels := range 5 {
		over := nat()
		for range levels {
			kids := []impl.Term{over, over}
			over = impl.Term{Kind: impl.TermPi, Kids: kids}
		}
		sides := []impl.Term{moved(over, 1), variable(0), variable(0)}
		ctx := []impl.Term{over, {Kind: impl.TermId, Kids: sides}}
		e := impl.Term{Kind: impl.TermRefl, Kids: sides[1:2]}
		f := impl.Term{Kind: impl.TermLam, Kids: []impl.Term{over, over}}
		before := append(textsOf(ctx), textOf(e), textOf(f))
		checkEquality(t, ctx, e, f, variable(0), variable(1), over)
		if !slices.Equal(append(textsOf(ctx), textOf(e), textOf(f)), before) {
			t.Errorf("shared terms are changed: %s", before)
		}
	}
}

// prover builds proofs in a context and keeps account of the laws.
type prover struct {
	t     *testing.T
	ctx   []impl.Term
	seen  *tally
	built map[string]int // results by the name of the function
}

// equation is what SidesOf returns for a proof.
type equation struct{ over, left, right impl.Term }

func (q equation) term() impl.Term { return mk(impl.TermId, q.over, q.left, q.right) }

func (p *prover) equationOf(e impl.Term) (equation, bool) {
	list, code := sidesOf(p.ctx, e)
	return equation{list[0], list[1], list[2]}, code == impl.TypeOk
}

// checkProves wants a proof of exactly this equation, with the type that
// chapter 5 has for a moved term.
func (p *prover) checkProves(name string, proof impl.Term, code int, q equation) bool {
	p.t.Helper()
	if code == impl.TypeOpen {
		p.seen.open++
		return false
	}
	p.seen.decided++
	p.built[name]++
	if code != impl.TypeOk {
		p.t.Errorf("%s in %s = %d, want a proof of %s", name, shown(p.ctx), code, textOf(q.term()))
		return false
	}
	checkSides(p.t, p.ctx, proof, []impl.Term{q.over, q.left, q.right}, impl.TypeOk)
	along, _ := p.equationOf(proof.Kids[1])
	found, code := impl.InferType(p.ctx, proof)
	checkTyped(p.t, name+": the type of "+said(p.ctx, proof), found, code, mk(impl.TermApp, proof.Kids[0], along.right), impl.TypeOk)
	if code := impl.CheckType(p.ctx, proof, q.term()); code != impl.TypeOk && code != impl.TypeOpen {
		p.t.Errorf("%s: CheckType of %s and %s = %d", name, said(p.ctx, proof), textOf(q.term()), code)
	} else if code == impl.TypeOk {
		p.built["checked"]++
	}
	return true
}

func (p *prover) sym(e impl.Term) (impl.Term, bool) {
	p.t.Helper()
	q, ok := p.equationOf(e)
	if !ok {
		return impl.Term{}, false
	}
	proof, code := impl.SymProof(p.ctx, e)
	return proof, p.checkProves("SymProof", proof, code, equation{q.over, q.right, q.left})
}

// trans needs the right side of d and the left side of e to be convertible.
func (p *prover) trans(d, e impl.Term) (impl.Term, bool) {
	p.t.Helper()
	q, first := p.equationOf(d)
	r, second := p.equationOf(e)
	if !first || !second {
		return impl.Term{}, false
	}
	proof, code := impl.TransProof(p.ctx, d, e)
	return proof, p.checkProves("TransProof", proof, code, equation{q.over, q.left, r.right})
}

// cong needs f to be a function whose result has the type is.
func (p *prover) cong(f, e, is impl.Term) (impl.Term, bool) {
	p.t.Helper()
	q, ok := p.equationOf(e)
	if !ok {
		return impl.Term{}, false
	}
	proof, code := impl.CongProof(p.ctx, f, e)
	return proof, p.checkProves("CongProof", proof, code, equation{is, mk(impl.TermApp, f, q.left), mk(impl.TermApp, f, q.right)})
}

// combine builds proofs from each other: d ends where e begins, and f returns
// elements of the type is.
func (p *prover) combine(d, e, f, is impl.Term) {
	p.t.Helper()
	both, joined := p.trans(d, e)
	first, reversed := p.sym(d)
	second, also := p.sym(e)
	p.cong(f, d, is)
	if reversed {
		p.sym(first)
		p.trans(d, first)
		p.trans(first, d)
		p.cong(f, first, is)
	}
	if reversed && also {
		p.trans(second, first)
	}
	if !joined {
		return
	}
	p.sym(both)
	mapped, ok := p.cong(f, both, is)
	if ok {
		p.sym(mapped)
	}
	if also {
		p.trans(both, second)
	}
}

func TestProofsFromProofs(t *testing.T) {
	for _, c := range []struct {
		ctx         []string
		d, e, f, is string
	}{
		{steps(), "#1", "#0", "[N]+#0", "N"}, {append(steps(), "(N>*1)"), "#2", "#1", "#0", "*1"}, {append(abstract(), "(#5>#6)"), "#2", "#1", "#0", "#6"}, {append(abstract(), "(#5>(#6>#7))"), "#2", "#1", "#0", "(#6>#7)"}, {nil, "!0", "!0", "[N]!0", "{N,0,0}"}, {[]string{"{*0,N,(N>N)}", "{*0,(N>N),N}"}, "#1", "#0", "[*0](#0>N)", "*0"}, {[]string{"N", "{N,#0,([N]+#0 0)}", "{([*0]#0 N),+0,#1}"}, "#1", "#0", "[([*0]#0 N)]#0", "([*0]#0 N)"},
	} {
		seen := prover{t, parseAll(t, c.ctx), &tally{}, map[string]int{}}
		seen.combine(parse(t, c.d), parse(t, c.e), parse(t, c.f), parse(t, c.is))
		if seen.seen.open > 0 || seen.built["SymProof"] < 5 || seen.built["TransProof"] < 5 || seen.built["CongProof"] < 3 || seen.built["checked"] < 13 {
			t.Errorf("%s: %v, %d are not decided", c.ctx, seen.built, seen.seen.open)
		}
	}
}

// Over the whole context, proofs are closed functions with the types of the
// laws.
func TestProofsAsTheorems(t *testing.T) {
	for _, c := range []struct {
		ctx   []string
		proof func(ctx []impl.Term) (impl.Term, int)
		text  string
		is    string
	}{
		{[]string{"N", "N", "{N,#1,#0}"}, func(ctx []impl.Term) (impl.Term, int) { return impl.SymProof(ctx, variable(0)) }, "[N][N][{N,#1,#0}]@<[N]{N,#0,#3},#0,!#2>", "(N>(N>({N,#1,#0}>{N,#1,#2})))"},
		{[]string{"*0", "#0", "#1", "{#2,#1,#0}"}, func(ctx []impl.Term) (impl.Term, int) { return impl.SymProof(ctx, variable(0)) }, "[*0][#0][#1][{#2,#1,#0}]@<[#3]{#4,#0,#3},#0,!#2>", "(*0>(#0>(#1>({#2,#1,#0}>{#3,#1,#2}))))"},
		{abstract(), func(ctx []impl.Term) (impl.Term, int) { return impl.TransProof(ctx, variable(1), variable(0)) }, "[*0][#0][#1][#2][{#3,#2,#1}][{#4,#2,#1}]@<[#5]{#6,#5,#0},#0,#1>", "(*0>(#0>(#1>(#2>({#3,#2,#1}>({#4,#2,#1}>{#5,#4,#2}))))))"},
		{[]string{"*0", "*0", "(#1>#1)", "#2", "#3", "{#4,#1,#0}"}, func(ctx []impl.Term) (impl.Term, int) { return impl.CongProof(ctx, variable(3), variable(0)) }, "[*0][*0][(#1>#1)][#2][#3][{#4,#1,#0}]@<[#5]{#5,(#4 #3),(#4 #0)},#0,!(#3 #2)>", "(*0>(*0>((#1>#1)>(#2>(#3>({#4,#1,#0}>{#4,(#3 #2),(#3 #1)}))))))"},
	} {
		ctx := parseAll(t, c.ctx)
		proof, code := c.proof(ctx)
		whole, ok := impl.LamOver(ctx, proof)
		if code != impl.TypeOk {
			t.Errorf("there is no proof for %s: %d", c.is, code)
		}
		checkText(t, "the proof of "+c.is, whole, ok, c.text)
		if code := impl.CheckType(nil, whole, parse(t, c.is)); code != impl.TypeOk {
			t.Errorf("CheckType of %s and %s = %d", c.text, c.is, code)
		}
	}
}

// variant returns a term that is convertible to x, of the type is.
func (m maker) variant(x, is impl.Term) impl.Term {
	switch m.r.Intn(4) {
	case 0:
		return mk(impl.TermApp, mk(impl.TermLam, is, variable(0)), x)
	case 1:
		return mk(impl.TermFst, mk(impl.TermPair, mk(impl.TermSigma, is, nat()), x, zero()))
	case 2:
		if y, code := impl.Normalize(x, impl.MaxFuel); code == impl.NormOk {
			return y
		}
	}
	return x
}

// equations returns a context with two proofs at its end, the second of which
// begins where the first one ends, and a function for their sides with the
// type of its results. It returns false if it finds none, or none within the
// limits.
func (m maker) equations(types, depth int) (ctx []impl.Term, f, is impl.Term, ok bool) {
	ctx = m.context(types, depth)
	over, ok := m.someType(ctx, depth)
	level := levelOf(ctx, over)
	if !ok || level < 0 || len(ctx)+2 > impl.MaxContext {
		return nil, f, is, false
	}
	var sides [3]impl.Term
	for i := range sides {
		if sides[i], ok = m.element(ctx, over, depth); !ok {
			return nil, f, is, false
		}
	}
	first := mk(impl.TermId, over, sides[0], sides[1])
	second := mk(impl.TermId, m.variant(over, sort(level)), m.variant(sides[1], over), sides[2])
	if is, ok = m.someType(ctx, depth-1); !ok {
		return nil, f, is, false
	}
	if f, ok = m.element(ctx, mk(impl.TermPi, m.variant(over, sort(level)), moved(is, 1)), depth); !ok {
		return nil, f, is, false
	}
	ctx = with(ctx, first, moved(second, 1))
	return ctx, moved(f, 2), moved(is, 2), !anyInvalid(append(ctx, moved(f, 2), moved(is, 2))...) && impl.CheckContext(ctx) == impl.TypeOk
}

func TestProofsOfRandomEquations(t *testing.T) {
	m := maker{rand.New(rand.NewSource(11))}
	seen := prover{t, nil, &tally{}, map[string]int{}}
	for range 250 {
		ctx, f, is, ok := m.equations(m.r.Intn(4), 2+m.r.Intn(2))
		if !ok {
			continue
		}
		seen.ctx = ctx
		d, e := variable(1), variable(0)
		checkEquality(t, ctx, d, e, f, m.changed(f))
		q, _ := seen.equationOf(d)
		result, ok := resultOf(ctx, f)
		if !ok || levelOf(ctx, result) == impl.MaxSort || levelOf(ctx, q.over) == impl.MaxSort { // then the families have no types
			continue
		}
		if impl.Convertible(result, is, impl.MaxFuel) == impl.ConvNo {
			t.Errorf("%s has results of the type %s, want %s", said(ctx, f), textOf(result), textOf(is))
		}
		seen.combine(d, e, f, result)
	}
	seen.seen.checkDecided(t, 1500)
	for _, b := range []builder{symBuilder(), transBuilder(), congBuilder()} {
		if seen.built[b.name] < 300 || seen.built["checked"] < 1500 {
			t.Errorf("there are too few proofs: %v", seen.built)
		}
	}
}

// resultOf returns the type of the results of f, if it is inferred and does
// not mention the argument.
func resultOf(ctx []impl.Term, f impl.Term) (impl.Term, bool) {
	found, _ := impl.InferType(ctx, f)
	head, code := impl.HeadNormal(found, impl.MaxFuel)
	if code != impl.NormOk || head.Kind != impl.TermPi {
		return impl.Term{}, false
	}
	return impl.ShiftTerm(head.Kids[1], -1, 0)
}

// A closed proof is the proof that something is equal to itself, after
// reduction.
func TestClosedProofsAreReduced(t *testing.T) {
	m := maker{rand.New(rand.NewSource(12))}
	reduced := 0
	check := func(proof impl.Term, code int) {
		t.Helper()
		if code != impl.TypeOk {
			return
		}
		normal, code := impl.Normalize(proof, impl.MaxFuel)
		if code != impl.NormOk {
			return
		}
		reduced++
		q, code := sidesOf(nil, proof)
		if code != impl.TypeOk || normal.Kind != impl.TermRefl || !convertible(normal.Kids[0], q[1]) || !convertible(normal.Kids[0], q[2]) {
			t.Errorf("%s is reduced to %s, and proves %s, %d", textOf(proof), textOf(normal), textsOf(q), code)
		}
	}
	for range 200 {
		over, ok := m.someType(nil, 2)
		if !ok || levelOf(nil, over) < 0 {
			continue
		}
		a, ok := m.element(nil, over, 3)
		b := m.variant(a, over)
		if !ok || anyInvalid(a, b) {
			continue
		}
		d, first := m.element(nil, mk(impl.TermId, over, a, b), 3)
		e, second := m.element(nil, mk(impl.TermId, over, b, a), 3)
		if !first || !second {
			continue
		}
		check(impl.SymProof(nil, d))
		check(impl.TransProof(nil, d, e))
		check(impl.CongProof(nil, mk(impl.TermLam, over, zero()), d))
		check(impl.CongProof(nil, mk(impl.TermLam, over, variable(0)), e))
	}
	if reduced < 300 {
		t.Errorf("only %d proofs are reduced", reduced)
	}
}

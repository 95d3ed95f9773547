package tests

import (
	"strconv"
	"strings"
	"testing"

	"loop.example/depkernel/impl"
)

// mk builds a term without any check, so that it also builds invalid ones.
func mk(kind int, kids ...impl.Term) impl.Term {
	return impl.Term{Kind: kind, Kids: kids}
}

func variable(n int) impl.Term { return impl.Term{Kind: impl.TermVar, N: n} }

func sort(n int) impl.Term { return impl.Term{Kind: impl.TermSort, N: n} }

func nat() impl.Term { return mk(impl.TermNat) }

func zero() impl.Term { return mk(impl.TermZero) }

// succs puts n TermSucc around t.
func succs(n int, t impl.Term) impl.Term {
	for range n {
		t = mk(impl.TermSucc, t)
	}
	return t
}

// sized builds a term with the given number of nodes that is as flat as
// possible with at most two operands.
func sized(nodes int) impl.Term {
	switch nodes {
	case 1:
		return nat()
	case 2:
		return mk(impl.TermSucc, nat())
	}
	left := (nodes - 1) / 2
	return mk(impl.TermApp, sized(left), sized(nodes-1-left))
}

// operandsOf is the table of chapter 1, written down a second time.
func operandsOf(kind int) int {
	return []int{0, 0, 0, 2, 2, 2, 0, 0, 1, 4, 3, 1, 3, 2, 3, 1, 1}[kind]
}

// textOf is the text of a term without regard to the limits.
func textOf(t impl.Term) string {
	form := []string{"", "#n", "*n", "(a>a)", "[a]a", "(a a)", "N", "0", "+a", "<a,a,a,a>", "{a,a,a}", "!a", "@<a,a,a>", "(a*a)", "|a,a,a|", "^a", "_a"}[t.Kind]
	var out strings.Builder
	next := 0
	for _, b := range []byte(form) {
		switch b {
		case 'n':
			out.WriteString(strconv.Itoa(t.N))
		case 'a':
			out.WriteString(textOf(t.Kids[next]))
			next++
		default:
			out.WriteByte(b)
		}
	}
	return out.String()
}

func equalTerm(a, b impl.Term) bool {
	if a.Kind != b.Kind || a.N != b.N || len(a.Kids) != len(b.Kids) {
		return false
	}
	for i := range a.Kids {
		if !equalTerm(a.Kids[i], b.Kids[i]) {
			return false
		}
	}
	return true
}

func copyTerm(t impl.Term) impl.Term {
	c := impl.Term{Kind: t.Kind, N: t.N}
	for _, kid := range t.Kids {
		c.Kids = append(c.Kids, copyTerm(kid))
	}
	return c
}

func parse(t *testing.T, text string) impl.Term {
	t.Helper()
	x, ok := impl.ParseTerm(text)
	if !ok {
		t.Fatalf("ParseTerm(%q) returns false", text)
	}
	return x
}

func isZeroTerm(t impl.Term) bool {
	return t.Kind == 0 && t.N == 0 && len(t.Kids) == 0
}

// overwrite changes all memory of a term, including unused capacity.
func overwrite(t impl.Term) {
	kids := t.Kids[:cap(t.Kids)]
	for i := range kids {
		overwrite(kids[i])
		kids[i] = impl.Term{Kind: -1, N: -1}
	}
}

// around returns a term of the kind whose operand with the given index is t,
// and whose other operands are `N`.
func around(kind int, index int, t impl.Term) impl.Term {
	kids := make([]impl.Term, operandsOf(kind))
	for i := range kids {
		kids[i] = nat()
	}
	kids[index] = t
	return mk(kind, kids...)
}

// everyPlace calls f for each kind with operands and each of its operands.
func everyPlace(f func(kind int, index int)) {
	for kind := impl.TermVar; kind <= impl.TermSnd; kind++ {
		for index := range operandsOf(kind) {
			f(kind, index)
		}
	}
}

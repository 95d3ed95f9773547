package tests

import (
	"math/rand"
	"slices"

	"loop.example/depkernel/impl"
)

// maker builds random types and terms that have a given type. It does not
// always find one, and what it finds may be past a limit of typing.
type maker struct {
	r *rand.Rand
}

// with returns a longer context in memory of its own.
func with(ctx []impl.Term, types ...impl.Term) []impl.Term {
	return slices.Concat(ctx, types)
}

// moved needs n to be small enough for t.
func moved(t impl.Term, n int) impl.Term {
	x, _ := impl.ShiftTerm(t, n, 0)
	return x
}

func convertible(a, b impl.Term) bool {
	return impl.Convertible(a, b, impl.MaxFuel) == impl.ConvYes
}

func levelOf(ctx []impl.Term, t impl.Term) int {
	n, code := impl.SortOf(ctx, t)
	if code != impl.TypeOk {
		return -1
	}
	return n
}

func (m maker) context(types, depth int) []impl.Term {
	var ctx []impl.Term
	for range types {
		if x, ok := m.someType(ctx, depth); ok {
			ctx = append(ctx, x)
		}
	}
	return ctx
}

func (m maker) someType(ctx []impl.Term, depth int) (impl.Term, bool) {
	if depth <= 1 {
		return m.smallType(ctx)
	}
	switch m.r.Intn(9) {
	case 0:
		return m.smallType(ctx)
	case 1, 2:
		return m.binder(impl.TermPi, ctx, depth)
	case 3, 4:
		return m.binder(impl.TermSigma, ctx, depth)
	case 5, 6:
		return m.equality(ctx, depth)
	case 7:
		return m.appliedFamily(ctx, depth)
	}
	return m.recursiveType(ctx, depth)
}

func (m maker) smallType(ctx []impl.Term) (impl.Term, bool) {
	for _, n := range m.r.Perm(len(ctx)) {
		if levelOf(ctx, variable(n)) >= 0 && m.r.Intn(4) > 0 {
			return variable(n), true
		}
	}
	return []impl.Term{nat(), nat(), nat(), sort(0), sort(1)}[m.r.Intn(5)], true
}

func (m maker) binder(kind int, ctx []impl.Term, depth int) (impl.Term, bool) {
	a, ok := m.someType(ctx, depth-1)
	if !ok || len(ctx) == impl.MaxContext {
		return impl.Term{}, false
	}
	b, ok := m.someType(with(ctx, a), depth-1)
	return mk(kind, a, b), ok
}

func (m maker) equality(ctx []impl.Term, depth int) (impl.Term, bool) {
	x, ok := m.someType(ctx, depth-1)
	if !ok {
		return impl.Term{}, false
	}
	a, first := m.element(ctx, x, depth-1)
	b, second := m.element(ctx, x, depth-1)
	if first && m.r.Intn(3) == 0 {
		b, second = a, true
	}
	return mk(impl.TermId, x, a, b), first && second
}

func (m maker) appliedFamily(ctx []impl.Term, depth int) (impl.Term, bool) {
	family, ok := m.binder(impl.TermLam, ctx, depth)
	if !ok {
		return impl.Term{}, false
	}
	a, ok := m.element(ctx, family.Kids[0], depth-1)
	return mk(impl.TermApp, family, a), ok
}

func (m maker) recursiveType(ctx []impl.Term, depth int) (impl.Term, bool) {
	z, ok := m.someType(ctx, depth-1)
	level := levelOf(ctx, z)
	a, found := m.element(ctx, nat(), depth-1)
	if !ok || !found || level < 0 || len(ctx)+2 > impl.MaxContext {
		return impl.Term{}, false
	}
	next, ok := m.element(with(ctx, nat(), sort(level)), sort(level), depth-1)
	s := mk(impl.TermLam, nat(), mk(impl.TermLam, sort(level), next))
	return mk(impl.TermElim, mk(impl.TermLam, nat(), sort(level)), z, s, a), ok
}

// element returns a term that has the type want, which is a type in ctx.
func (m maker) element(ctx []impl.Term, want impl.Term, depth int) (impl.Term, bool) {
	if depth <= 0 {
		return zero(), convertible(want, nat())
	}
	for range 3 {
		var x impl.Term
		ok := false
		switch m.r.Intn(5) {
		case 0:
			x, ok = m.neutral(ctx, want, depth)
		case 1, 2:
			x, ok = m.canonical(ctx, want, depth)
		case 3:
			x, ok = m.detour(ctx, want, depth)
		case 4:
			x, ok = m.dependentDetour(ctx, want, depth)
		}
		if ok && impl.TermValid(x) {
			return x, true
		}
	}
	return m.canonical(ctx, want, depth)
}

func (m maker) canonical(ctx []impl.Term, want impl.Term, depth int) (impl.Term, bool) {
	head, code := impl.HeadNormal(want, impl.MaxFuel)
	if code != impl.NormOk {
		return impl.Term{}, false
	}
	switch head.Kind {
	case impl.TermSort:
		return m.typeOfLevel(ctx, head.N, depth)
	case impl.TermNat:
		a, ok := m.element(ctx, want, depth-1)
		if !ok || m.r.Intn(2) == 0 {
			return zero(), true
		}
		return mk(impl.TermSucc, a), true
	case impl.TermPi:
		if len(ctx) == impl.MaxContext {
			return impl.Term{}, false
		}
		body, ok := m.element(with(ctx, head.Kids[0]), head.Kids[1], depth-1)
		return mk(impl.TermLam, head.Kids[0], body), ok
	case impl.TermSigma:
		a, ok := m.element(ctx, head.Kids[0], depth-1)
		if !ok {
			return impl.Term{}, false
		}
		second, ok := impl.Instantiate(head.Kids[1], a)
		if !ok {
			return impl.Term{}, false
		}
		b, ok := m.element(ctx, second, depth-1)
		return mk(impl.TermPair, want, a, b), ok
	case impl.TermId:
		return mk(impl.TermRefl, head.Kids[1+m.r.Intn(2)]), convertible(head.Kids[1], head.Kids[2])
	}
	return m.neutral(ctx, want, depth)
}

func (m maker) typeOfLevel(ctx []impl.Term, level, depth int) (impl.Term, bool) {
	for range 4 {
		if x, ok := m.someType(ctx, depth-1); ok && levelOf(ctx, x) == level {
			return x, true
		}
	}
	if level == 0 {
		return nat(), true
	}
	return sort(level - 1), true
}

// neutral applies a variable, or takes a part of it, until it has the type.
func (m maker) neutral(ctx []impl.Term, want impl.Term, depth int) (impl.Term, bool) {
	for _, n := range m.r.Perm(len(ctx)) {
		x := variable(n)
		for range 4 {
			found, code := impl.InferType(ctx, x)
			if code != impl.TypeOk {
				break
			}
			if convertible(found, want) {
				return x, true
			}
			head, code := impl.HeadNormal(found, impl.MaxFuel)
			if code != impl.NormOk || head.Kind != impl.TermPi && head.Kind != impl.TermSigma {
				break
			}
			if head.Kind == impl.TermSigma {
				x = mk(impl.TermFst+m.r.Intn(2), x)
				continue
			}
			a, ok := m.element(ctx, head.Kids[0], depth-1)
			if !ok {
				break
			}
			x = mk(impl.TermApp, x, a)
		}
	}
	return impl.Term{}, false
}

// detour returns a redex, or what would be one if a variable was known.
func (m maker) detour(ctx []impl.Term, want impl.Term, depth int) (impl.Term, bool) {
	if depth <= 1 || len(ctx)+2 > impl.MaxContext {
		return impl.Term{}, false
	}
	kind := []int{impl.TermApp, impl.TermElim, impl.TermMove, impl.TermFst, impl.TermSnd}[m.r.Intn(5)]
	other := nat()
	if kind != impl.TermElim {
		other, _ = m.someType(ctx, depth-1)
	}
	a, ok := m.element(ctx, other, depth-1)
	if !ok || !impl.TermValid(other) {
		return impl.Term{}, false
	}
	x, ok := m.element(ctx, want, depth-1)
	if !ok {
		return impl.Term{}, false
	}
	constant := mk(impl.TermLam, other, moved(want, 1))
	switch kind {
	case impl.TermApp:
		body, ok := m.element(with(ctx, other), moved(want, 1), depth-1)
		return mk(kind, mk(impl.TermLam, other, body), a), ok
	case impl.TermElim:
		body, ok := m.element(with(ctx, nat(), moved(want, 1)), moved(want, 2), depth-1)
		return mk(kind, constant, x, mk(impl.TermLam, nat(), mk(impl.TermLam, moved(want, 1), body)), a), ok
	case impl.TermMove:
		return mk(kind, constant, mk(impl.TermRefl, a), x), true
	case impl.TermFst:
		return mk(kind, mk(impl.TermPair, mk(impl.TermSigma, want, moved(other, 1)), x, a)), true
	}
	return mk(kind, mk(impl.TermPair, mk(impl.TermSigma, other, moved(want, 1)), a, x)), true
}

// dependentDetour returns a term whose type is want only after steps, and
// where types of parts depend on other parts.
func (m maker) dependentDetour(ctx []impl.Term, want impl.Term, depth int) (impl.Term, bool) {
	head, code := impl.HeadNormal(want, impl.MaxFuel)
	if code != impl.NormOk || head.Kind != impl.TermId || len(ctx)+2 > impl.MaxContext {
		return impl.Term{}, false
	}
	t, a, b := head.Kids[0], head.Kids[1], head.Kids[2]
	if m.r.Intn(2) == 0 { // turn a proof of the reverse around
		e, ok := m.element(ctx, mk(impl.TermId, t, b, a), depth-1)
		family := mk(impl.TermLam, t, mk(impl.TermId, moved(t, 1), variable(0), moved(b, 1)))
		return mk(impl.TermMove, family, e, mk(impl.TermRefl, b)), ok
	}
	if !convertible(t, nat()) || !convertible(a, b) { // prove it for all numbers
		return impl.Term{}, false
	}
	statement := mk(impl.TermId, nat(), variable(0), variable(0))
	next := mk(impl.TermLam, nat(), mk(impl.TermLam, statement, mk(impl.TermRefl, mk(impl.TermSucc, variable(1)))))
	return mk(impl.TermElim, mk(impl.TermLam, nat(), statement), mk(impl.TermRefl, zero()), next, a), true
}

// judgement is a term that has a type in a context.
type judgement struct {
	ctx  []impl.Term
	term impl.Term
	is   impl.Term
}

// judgement tries until it finds one.
func (m maker) judgement(types, depth int) judgement {
	for {
		ctx := m.context(types, max(1, depth-1))
		want, ok := m.someType(ctx, depth)
		if !ok {
			continue
		}
		x, ok := m.element(ctx, want, depth)
		if !ok {
			continue
		}
		if is, code := impl.InferType(ctx, x); code == impl.TypeOk {
			return judgement{ctx, x, is}
		}
	}
}

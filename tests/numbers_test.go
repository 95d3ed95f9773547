package tests

import (
	"fmt"
	"math"
	"slices"
	"strings"
	"testing"

	"loop.example/depkernel/impl"
)

// Promise 10: values that are computed by reduction are the values of the
// functions.

// funRow is a row of the table of chapter 10, written down a second time, with
// P and Q written out.
type funRow struct {
	name     string
	constant int
	code     int
	text     string
	is       string // the type of the term
	normal   string // the normal type
	arity    int
	value    func(args []int) int
}

func funRows() []funRow {
	return []funRow{
		{"FunPlus", impl.FunPlus, 1, "[N][N]<[N]N,#1,[N][N]+#0,#0>", "(N>(N>([N]N #0)))", "(N>(N>N))", 2, func(args []int) int { return countedUp(args[0], args[1], 1) }},
		{"FunTimes", impl.FunTimes, 2, "[N][N]<[N]N,0,[N][N](([N][N]<[N]N,#1,[N][N]+#0,#0> #2) #0),#1>", "(N>(N>([N]N #1)))", "(N>(N>N))", 2, func(args []int) int { return countedUp(0, args[0], args[1]) }},
		{"FunPred", impl.FunPred, 3, "[N]<[N]N,0,[N][N]#1,#0>", "(N>([N]N #0))", "(N>N)", 1, func(args []int) int { return before(args[0]) }},
		{"FunMinus", impl.FunMinus, 4, "[N][N]<[N]N,#1,[N][N]([N]<[N]N,0,[N][N]#1,#0> #0),#0>", "(N>(N>([N]N #0)))", "(N>(N>N))", 2, func(args []int) int {
			rest := args[0]
			for range args[1] {
				rest = before(rest)
			}
			return rest
		}},
		{"FunZero", impl.FunZero, 5, "[N]<[N]N,+0,[N][N]0,#0>", "(N>([N]N #0))", "(N>N)", 1, func(args []int) int { return map[bool]int{true: 1}[args[0] == 0] }},
		{"FunDouble", impl.FunDouble, 6, "[N]<[N]N,0,[N][N]++#0,#0>", "(N>([N]N #0))", "(N>N)", 1, func(args []int) int { return countedUp(args[0], args[0], 1) }},
		{"FunTwice", impl.FunTwice, 7, "[(N>N)][N](#1 (#1 #0))", "((N>N)>(N>N))", "((N>N)>(N>N))", -1, nil},
	}
}

// computable returns the rows of the functions with a value.
func computable() []funRow {
	return slices.DeleteFunc(funRows(), func(f funRow) bool { return f.value == nil })
}

func countedUp(from, times, by int) int {
	for range times {
		from += by
	}
	return from
}

func before(n int) int {
	if n == 0 {
		return 0
	}
	return n - 1
}

// otherCodes has codes below, between and above those of the functions with a
// value, and none of these.
func otherCodes() []int {
	codes := []int{math.MinInt, math.MinInt + 1, math.MinInt32, -1 << 16, 1 << 8, 1<<8 + 1, 1<<16 + 2, 1<<32 + 1, 1<<32 + 7, math.MaxInt32, math.MaxInt - 1, math.MaxInt}
	for code := -40; code <= 40; code++ {
		if code < 1 || code > 6 {
			codes = append(codes, code)
		}
	}
	return codes
}

// argumentsOf returns all lists of the given number of arguments that a
// function accepts.
func argumentsOf(arity int) [][]int {
	if arity == 0 {
		return [][]int{nil}
	}
	var lists [][]int
	for _, first := range argumentsOf(arity - 1) {
		for n := range 21 {
			lists = append(lists, append(slices.Clone(first), n))
		}
	}
	return lists
}

func numeralText(n int) string { return strings.Repeat("+", n) + "0" }

// appliedText is the text of the function with its arguments.
func (f funRow) appliedText(args []int) string {
	var texts []string
	for _, n := range args {
		texts = append(texts, numeralText(n))
	}
	return textApplied(texts, f.text)
}

func (f funRow) called(args []int) string { return fmt.Sprint(f.name, " of ", args) }

// wantNumber reads a number from the text of its numeral.
func wantNumber(x impl.Term) (int, bool) {
	text := textOf(x)
	n := len(text) - 1
	if n > 20 || text != numeralText(n) {
		return 0, false
	}
	return n, true
}

// number is the result of ComputeFun with the trace of an application, for a
// fuel up to 200.
func (x trace) number(fuel int) (int, int) {
	normal, code := x.normalized(fuel)
	if code != impl.NormOk {
		return 0, code
	}
	n, ok := wantNumber(normal)
	if !ok {
		return 0, impl.NormLarge
	}
	return n, impl.NormOk
}

func checkValue(t *testing.T, fun int, args []int, want int, exists bool) {
	t.Helper()
	if got, ok := impl.FunValue(fun, args); got != want || ok != exists {
		t.Errorf("FunValue of %d and %v = %d, %v, want %d, %v", fun, args, got, ok, want, exists)
	}
}

func checkComputed(t *testing.T, fun int, args []int, fuel int, want, wantCode int) {
	t.Helper()
	if got, code := impl.ComputeFun(fun, args, fuel); got != want || code != wantCode {
		t.Errorf("ComputeFun of %d, %v and the fuel %d = %d, %d, want %d, %d", fun, args, fuel, got, code, want, wantCode)
	}
}

// checkNoValue wants both functions to refuse the arguments, with every fuel.
func checkNoValue(t *testing.T, fun int, args []int) {
	t.Helper()
	checkValue(t, fun, args, 0, false)
	for _, fuel := range []int{math.MinInt, -1, 0, 1, 100, 200, 201, math.MaxInt} {
		checkComputed(t, fun, args, fuel, 0, impl.NormInvalid)
	}
}

func TestTableOfFunctions(t *testing.T) {
	for _, f := range funRows() {
		if f.constant != f.code {
			t.Errorf("%s is %d, want %d", f.name, f.constant, f.code)
		}
		got, ok := impl.FunTerm(f.code)
		checkText(t, "FunTerm of "+f.name, got, ok, f.text)
		if text := impl.FormatTerm(got); text != f.text {
			t.Errorf("the text of %s is %s, want %s", f.name, text, f.text)
		}
		if impl.MaxFree(got) != 0 || !impl.NormalTerm(got) && f.code != impl.FunTimes && f.code != impl.FunMinus {
			t.Errorf("%s is not closed, or has a redex", f.name)
		}
		if arity := impl.FunArity(f.code); arity != f.arity {
			t.Errorf("FunArity of %s = %d, want %d", f.name, arity, f.arity)
		}
	}
}

func TestTypesOfFunctions(t *testing.T) {
	for _, f := range funRows() {
		x, _ := impl.FunTerm(f.code)
		normal := parse(t, f.normal)
		for _, ctx := range [][]impl.Term{nil, {nat()}, {sort(0), variable(0)}} {
			found, code := impl.InferType(ctx, x)
			checkTyped(t, "the type of "+f.name, found, code, parse(t, f.is), impl.TypeOk)
			found, code = impl.InferNormal(ctx, x)
			checkTyped(t, "the normal type of "+f.name, found, code, normal, impl.TypeOk)
			if code := impl.CheckType(ctx, x, normal); code != impl.TypeOk {
				t.Errorf("CheckType of %s and %s = %d", f.name, f.normal, code)
			}
		}
		if f.value != nil && impl.CountPi(normal) != impl.FunArity(f.code) {
			t.Errorf("%s has the type %s and takes %d arguments", f.name, f.normal, impl.FunArity(f.code))
		}
	}
}

func TestCodesWithoutAValue(t *testing.T) {
	lists := [][]int{nil, {}, {0}, {1}, {20}, {0, 0}, {2, 3}, {20, 20}, {1, 2, 3}, {-1}, {21}, make([]int, 100)}
	for _, code := range otherCodes() {
		got, ok := impl.FunTerm(code)
		if code == impl.FunTwice {
			checkText(t, "FunTerm of FunTwice", got, ok, "[(N>N)][N](#1 (#1 #0))")
		} else {
			checkRefused(t, fmt.Sprint("FunTerm of ", code), got, ok)
		}
		if arity := impl.FunArity(code); arity != -1 {
			t.Errorf("FunArity of %d = %d", code, arity)
		}
		for _, args := range lists {
			checkNoValue(t, code, args)
		}
	}
}

func TestNumberOfArguments(t *testing.T) {
	for _, f := range computable() {
		for _, n := range []int{0, 1, 2, 3, 4, 8, 9, 1000000} {
			for _, each := range []int{0, 1, 20, 21} {
				args := slices.Repeat([]int{each}, n)
				if n != f.arity || each > 20 {
					checkNoValue(t, f.code, args)
				} else {
					checkValue(t, f.code, args, f.value(args), true)
				}
			}
		}
		checkNoValue(t, f.code, nil)
	}
}

func TestLimitsOfArguments(t *testing.T) {
	for _, f := range computable() {
		for index := range f.arity {
			for _, others := range []int{0, 1, 7, 20} {
				args := slices.Repeat([]int{others}, f.arity)
				for _, n := range []int{math.MinInt, math.MinInt32, -20, -2, -1, 21, 22, 30, 200, 1 << 32, 1<<32 + 1, math.MaxInt} {
					args[index] = n
					checkNoValue(t, f.code, args)
				}
				for _, n := range []int{0, 1, 19, 20} {
					args[index] = n
					checkValue(t, f.code, args, f.value(args), true)
					if _, code := impl.ComputeFun(f.code, args, 200); code == impl.NormInvalid {
						t.Errorf("ComputeFun refuses %s", f.called(args))
					}
				}
			}
		}
	}
	for _, wrong := range []int{-1, 21} {
		for fun := impl.FunPlus; fun <= impl.FunTwice; fun++ {
			checkNoValue(t, fun, []int{wrong})
			checkNoValue(t, fun, []int{wrong, wrong})
		}
	}
}

func TestSomeValues(t *testing.T) {
	for _, c := range []struct {
		fun  int
		args []int
		want int
	}{
		{impl.FunPlus, []int{0, 0}, 0}, {impl.FunPlus, []int{0, 20}, 20}, {impl.FunPlus, []int{20, 0}, 20}, {impl.FunPlus, []int{2, 3}, 5}, {impl.FunPlus, []int{10, 10}, 20}, {impl.FunPlus, []int{10, 11}, 21}, {impl.FunPlus, []int{20, 1}, 21}, {impl.FunPlus, []int{20, 20}, 40},
		{impl.FunTimes, []int{0, 0}, 0}, {impl.FunTimes, []int{0, 20}, 0}, {impl.FunTimes, []int{20, 0}, 0}, {impl.FunTimes, []int{1, 20}, 20}, {impl.FunTimes, []int{20, 1}, 20}, {impl.FunTimes, []int{2, 3}, 6}, {impl.FunTimes, []int{4, 5}, 20}, {impl.FunTimes, []int{3, 7}, 21}, {impl.FunTimes, []int{20, 20}, 400},
		{impl.FunPred, []int{0}, 0}, {impl.FunPred, []int{1}, 0}, {impl.FunPred, []int{2}, 1}, {impl.FunPred, []int{20}, 19},
		{impl.FunMinus, []int{0, 0}, 0}, {impl.FunMinus, []int{0, 1}, 0}, {impl.FunMinus, []int{0, 20}, 0}, {impl.FunMinus, []int{1, 0}, 1}, {impl.FunMinus, []int{5, 2}, 3}, {impl.FunMinus, []int{2, 5}, 0}, {impl.FunMinus, []int{7, 7}, 0}, {impl.FunMinus, []int{7, 6}, 1}, {impl.FunMinus, []int{19, 20}, 0}, {impl.FunMinus, []int{20, 0}, 20}, {impl.FunMinus, []int{20, 19}, 1}, {impl.FunMinus, []int{20, 20}, 0},
		{impl.FunZero, []int{0}, 1}, {impl.FunZero, []int{1}, 0}, {impl.FunZero, []int{2}, 0}, {impl.FunZero, []int{20}, 0},
		{impl.FunDouble, []int{0}, 0}, {impl.FunDouble, []int{1}, 2}, {impl.FunDouble, []int{10}, 20}, {impl.FunDouble, []int{11}, 22}, {impl.FunDouble, []int{20}, 40},
	} {
		checkValue(t, c.fun, c.args, c.want, true)
	}
}

func TestValuesOfAllArguments(t *testing.T) {
	for _, f := range computable() {
		for _, args := range argumentsOf(f.arity) {
			checkValue(t, f.code, args, f.value(args), true)
		}
	}
}

// outcomes counts what ComputeFun is to say of a function with MaxFuel.
type outcomes struct {
	found   int
	fuel    int
	numeral int // normal terms that are no numerals
	step    int // steps that would be too large
	small   int // other codes than NormOk although the value has a numeral
	upwards int // found with a second argument that is greater than the first
}

func (o *outcomes) add(x trace, args []int, value int) {
	_, code := x.number(200)
	_, end := x.normalized(200)
	switch {
	case code == impl.NormOk:
		o.found++
		if len(args) == 2 && args[0] < args[1] {
			o.upwards++
		}
		return
	case code == impl.NormFuel:
		o.fuel++
	case end == impl.NormOk:
		o.numeral++
	default:
		o.step++
	}
	if value <= 20 {
		o.small++
	}
}

// Every list of arguments, with the fuels at the limits and next to the number
// of steps: what is computed is the value.
func TestComputedValuesOfAllArguments(t *testing.T) {
	wants := []outcomes{{231, 0, 132, 78, 0, 110}, {92, 90, 10, 249, 15, 51}, {21, 0, 0, 0, 0, 0}, {363, 0, 0, 78, 78, 174}, {21, 0, 0, 0, 0, 0}, {11, 0, 2, 8, 0, 0}}
	for i, f := range computable() {
		var seen outcomes
		for _, args := range argumentsOf(f.arity) {
			x := outside().traceOf(parse(t, f.appliedText(args)), 200)
			for _, fuel := range []int{0, 1, x.steps() - 1, x.steps(), x.steps() + 1, 199, 200} {
				if fuel > 200 {
					continue
				}
				want, code := x.number(fuel)
				checkComputed(t, f.code, args, fuel, want, code)
				if code == impl.NormOk && want != f.value(args) {
					t.Errorf("%s is reduced to %d", f.called(args), want)
				}
			}
			for _, fuel := range []int{-1, 201} {
				checkComputed(t, f.code, args, fuel, 0, impl.NormInvalid)
			}
			seen.add(x, args, f.value(args))
		}
		if seen != wants[i] {
			t.Errorf("the outcomes of %s are %+v, want %+v", f.name, seen, wants[i])
		}
	}
}

func TestComputedValuesWithEveryFuel(t *testing.T) {
	for _, f := range computable() {
		for _, args := range argumentsOf(f.arity) {
			if slices.ContainsFunc(args, func(n int) bool { return n != 0 && n != 2 && n != 5 && n != 11 && n != 20 }) {
				continue
			}
			x := outside().traceOf(parse(t, f.appliedText(args)), 200)
			for fuel := range 201 {
				want, code := x.number(fuel)
				checkComputed(t, f.code, args, fuel, want, code)
			}
		}
	}
}

func TestCodesOfComputeFun(t *testing.T) {
	for _, c := range []struct {
		fun  int
		args []int
		fuel int
		want int
		code int
	}{
		{impl.FunTimes, []int{2, 3}, 200, 6, impl.NormOk},
		// The number of steps that is just enough, and one less.
		{impl.FunPlus, []int{0, 0}, 3, 0, impl.NormOk}, {impl.FunPlus, []int{0, 0}, 2, 0, impl.NormFuel}, {impl.FunPlus, []int{2, 3}, 12, 5, impl.NormOk}, {impl.FunPlus, []int{2, 3}, 11, 0, impl.NormFuel}, {impl.FunPlus, []int{0, 20}, 63, 20, impl.NormOk}, {impl.FunPlus, []int{0, 20}, 62, 0, impl.NormFuel},
		{impl.FunTimes, []int{5, 0}, 33, 0, impl.NormOk}, {impl.FunTimes, []int{5, 0}, 32, 0, impl.NormFuel}, {impl.FunPred, []int{0}, 2, 0, impl.NormOk}, {impl.FunPred, []int{0}, 1, 0, impl.NormFuel}, {impl.FunPred, []int{20}, 4, 19, impl.NormOk}, {impl.FunPred, []int{20}, 3, 0, impl.NormFuel},
		{impl.FunMinus, []int{0, 20}, 103, 0, impl.NormOk}, {impl.FunMinus, []int{0, 20}, 102, 0, impl.NormFuel}, {impl.FunMinus, []int{5, 2}, 17, 3, impl.NormOk}, {impl.FunMinus, []int{5, 2}, 16, 0, impl.NormFuel},
		{impl.FunZero, []int{0}, 2, 1, impl.NormOk}, {impl.FunZero, []int{0}, 1, 0, impl.NormFuel}, {impl.FunZero, []int{7}, 4, 0, impl.NormOk}, {impl.FunZero, []int{7}, 3, 0, impl.NormFuel}, {impl.FunDouble, []int{10}, 32, 20, impl.NormOk}, {impl.FunDouble, []int{10}, 31, 0, impl.NormFuel},
		{impl.FunTimes, []int{10, 10}, 200, 0, impl.NormFuel}, {impl.FunTimes, []int{10, 10}, 201, 0, impl.NormInvalid},
		// A value that is too large for a numeral: too little fuel goes before it.
		{impl.FunPlus, []int{20, 1}, 6, 0, impl.NormLarge}, {impl.FunPlus, []int{20, 1}, 5, 0, impl.NormFuel}, {impl.FunPlus, []int{15, 10}, 33, 0, impl.NormLarge}, {impl.FunPlus, []int{15, 10}, 32, 0, impl.NormFuel}, {impl.FunPlus, []int{15, 10}, 200, 0, impl.NormLarge},
		{impl.FunDouble, []int{11}, 35, 0, impl.NormLarge}, {impl.FunDouble, []int{11}, 34, 0, impl.NormFuel}, {impl.FunTimes, []int{5, 5}, 183, 0, impl.NormLarge}, {impl.FunTimes, []int{5, 5}, 182, 0, impl.NormFuel},
		// A step that is too large: fuel that is used up goes before it.
		{impl.FunPlus, []int{20, 20}, 27, 0, impl.NormLarge}, {impl.FunPlus, []int{20, 20}, 26, 0, impl.NormFuel}, {impl.FunPlus, []int{20, 20}, 0, 0, impl.NormFuel}, {impl.FunPlus, []int{20, 20}, 200, 0, impl.NormLarge},
		{impl.FunMinus, []int{20, 20}, 35, 0, impl.NormLarge}, {impl.FunMinus, []int{20, 20}, 34, 0, impl.NormFuel}, {impl.FunTimes, []int{20, 20}, 23, 0, impl.NormLarge}, {impl.FunTimes, []int{20, 20}, 22, 0, impl.NormFuel}, {impl.FunDouble, []int{20}, 28, 0, impl.NormLarge}, {impl.FunDouble, []int{20}, 27, 0, impl.NormFuel},
		// Arguments that are not valid go before both.
		{impl.FunPlus, []int{20, 20}, -1, 0, impl.NormInvalid}, {impl.FunPlus, []int{20, 20}, 201, 0, impl.NormInvalid}, {impl.FunPlus, []int{20, 21}, 200, 0, impl.NormInvalid}, {impl.FunPlus, []int{20, 21}, 0, 0, impl.NormInvalid}, {impl.FunPlus, []int{-1, 20}, 0, 0, impl.NormInvalid}, {impl.FunPlus, []int{20, 20, 20}, 0, 0, impl.NormInvalid}, {impl.FunPlus, []int{20}, 0, 0, impl.NormInvalid}, {impl.FunPlus, nil, 0, 0, impl.NormInvalid}, {impl.FunDouble, []int{21}, 200, 0, impl.NormInvalid}, {impl.FunTimes, []int{21, 21}, 22, 0, impl.NormInvalid},
		{impl.FunPlus, []int{2, 3}, -1, 0, impl.NormInvalid}, {impl.FunPlus, []int{2, 3}, 201, 0, impl.NormInvalid}, {impl.FunPlus, []int{2, 3}, math.MinInt, 0, impl.NormInvalid}, {impl.FunPlus, []int{2, 3}, math.MaxInt, 0, impl.NormInvalid}, {impl.FunTwice, []int{2}, 0, 0, impl.NormInvalid}, {0, nil, 0, 0, impl.NormInvalid}, {8, nil, -1, 0, impl.NormInvalid},
	} {
		checkComputed(t, c.fun, c.args, c.fuel, c.want, c.code)
	}
}

// A function that is applied to numbers has the type of numbers, and equals
// its value by a proof of EqualNumbers, but not another number.
func TestComputedValuesAreProvedEqual(t *testing.T) {
	for _, f := range computable() {
		for _, args := range argumentsOf(f.arity) {
			if slices.Max(args) > 4 {
				continue
			}
			x := parse(t, f.appliedText(args))
			if code := impl.CheckType(nil, x, nat()); code != impl.TypeOk {
				t.Errorf("CheckType of %s and N = %d", f.called(args), code)
			}
			value, code := impl.ComputeFun(f.code, args, 200)
			if code != impl.NormOk {
				t.Errorf("ComputeFun of %s = %d", f.called(args), code)
			}
			proof, ok := impl.EqualNumbers(value, f.value(args))
			if !ok {
				t.Fatalf("%s is %d, and %d is computed", f.called(args), f.value(args), value)
			}
			for _, other := range []int{value, value + 1} {
				want := map[bool]int{true: impl.TypeOk, false: impl.TypeBad}[other == value]
				statement := mk(impl.TermId, nat(), x, succs(other, zero()))
				if code := impl.CheckType(nil, proof, statement); code != want {
					t.Errorf("CheckType of the proof for %s and %d = %d, want %d", f.called(args), other, code, want)
				}
			}
		}
	}
}

// FunTwice has no value of its own, but applies a function of numbers to its
// value.
func TestFunTwice(t *testing.T) {
	twice, ok := impl.FunTerm(impl.FunTwice)
	if !ok {
		t.Fatal("FunTwice has no term")
	}
	for _, f := range computable() {
		if f.arity != 1 {
			continue
		}
		once, _ := impl.FunTerm(f.code)
		for n := range 6 {
			x, ok := impl.ApplyAll(twice, []impl.Term{once, succs(n, zero())})
			got, code := impl.Normalize(x, 200)
			want := succs(f.value([]int{f.value([]int{n})}), zero())
			if !ok || code != impl.NormOk || !equalTerm(got, want) {
				t.Errorf("%s, twice, of %d = %s, %d, want %s", f.name, n, textOrZero(got), code, textOf(want))
			}
		}
	}
	x, ok := impl.ApplyAll(twice, []impl.Term{twice})
	found, code := impl.InferType(nil, x)
	checkTyped(t, fmt.Sprint("FunTwice of itself, ", ok), found, code, impl.Term{}, impl.TypeBad)
}

func TestEqualNumbers(t *testing.T) {
	numbers := []int{math.MinInt, math.MinInt32, -21, -20, 30, 200, 256, 1 << 32, 1<<32 + 1, math.MaxInt - 1, math.MaxInt}
	for n := -3; n <= 24; n++ {
		numbers = append(numbers, n)
	}
	for _, a := range numbers {
		for _, b := range numbers {
			got, ok := impl.EqualNumbers(a, b)
			what := fmt.Sprint("EqualNumbers of ", a, " and ", b)
			if a != b || a < 0 || a > 20 {
				checkRefused(t, what, got, ok)
				continue
			}
			number := numeralText(a)
			checkText(t, what, got, ok, "!"+number)
			statement := parse(t, "{N,"+number+","+number+"}")
			found, code := impl.InferType(nil, got)
			checkTyped(t, "the type of the proof of "+what, found, code, statement, impl.TypeOk)
			if code := impl.CheckType(nil, got, statement); code != impl.TypeOk {
				t.Errorf("CheckType of the proof of %s = %d", what, code)
			}
			other := parse(t, "{N,"+number+",+"+number+"}")
			if code := impl.CheckType(nil, got, other); code != impl.TypeBad {
				t.Errorf("CheckType of the proof of %s and %s = %d", what, textOf(other), code)
			}
		}
	}
}

func TestTermsOfFunctionsShareNoMemory(t *testing.T) {
	always := func() bool { return true }
	for _, f := range funRows() {
		checkLists(t, "FunTerm of "+f.name, func() []impl.Term {
			got, _ := impl.FunTerm(f.code)
			return []impl.Term{got}
		}, always)
	}
	for n := range 21 {
		checkLists(t, fmt.Sprint("EqualNumbers of ", n), func() []impl.Term {
			got, _ := impl.EqualNumbers(n, n)
			return []impl.Term{got}
		}, always)
	}
	checkLists(t, "FunTerm of all functions, and EqualNumbers", func() []impl.Term {
		var list []impl.Term
		for _, f := range funRows() {
			x, _ := impl.FunTerm(f.code)
			proof, _ := impl.EqualNumbers(f.code, f.code)
			list = append(list, x, proof)
		}
		return list
	}, always)
}

// What is written to a term does not change what the functions return later.
func TestFunctionsAfterTheirTermsAreOverwritten(t *testing.T) {
	for round := range 2 {
		for _, f := range funRows() {
			x, ok := impl.FunTerm(f.code)
			checkText(t, fmt.Sprint("FunTerm of ", f.name, " in the round ", round), x, ok, f.text)
			overwrite(x)
		}
		proof, ok := impl.EqualNumbers(3, 3)
		checkText(t, "EqualNumbers of 3 and 3", proof, ok, "!+++0")
		overwrite(proof)
		for _, f := range computable() {
			args := []int{4, 3}[:f.arity]
			checkValue(t, f.code, args, f.value(args), true)
			checkComputed(t, f.code, args, 200, f.value(args), impl.NormOk)
		}
	}
}

// Neither the arguments nor the memory beyond their length are changed, and
// only the arguments count.
func TestArgumentsAreNotChanged(t *testing.T) {
	for _, f := range funRows() {
		for length := range 4 {
			store := []int{3, 2, 1, -7, 99}
			args := store[:length]
			for _, fuel := range []int{-1, 0, 3, 200, 201} {
				value, ok := impl.FunValue(f.code, args)
				got, code := impl.ComputeFun(f.code, args, fuel)
				tight := slices.Clip(slices.Clone(args))
				checkValue(t, f.code, tight, value, ok)
				checkComputed(t, f.code, tight, fuel, got, code)
				if ok != (length == f.arity) {
					t.Errorf("FunValue of %s = %d, %v", f.called(args), value, ok)
				}
			}
			if !slices.Equal(store, []int{3, 2, 1, -7, 99}) {
				t.Errorf("%s changes its arguments: %v", f.called(args), store)
			}
			// What a call returned does not depend on its arguments any more.
			value, _ := impl.FunValue(f.code, args)
			clear(store)
			again, _ := impl.FunValue(f.code, []int{3, 2, 1}[:length])
			if again != value {
				t.Errorf("FunValue of %s changes from %d to %d", f.called(args), value, again)
			}
		}
	}
}

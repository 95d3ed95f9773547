package tests

import (
	"fmt"
	"math"
	"math/rand"
	"slices"
	"strconv"
	"strings"
	"testing"

	"loop.example/depkernel/impl"
)

// Promise 12: the extracted program of a closed number has the value of its
// normal term.

// codeRow is a row of the table of programs, written down a second time. In
// the text, n is the N and each a is an operand.
type codeRow struct {
	constant int
	kind     int
	operands int
	text     string
}

func codeRows() []codeRow {
	return []codeRow{
		{impl.CodeVar, 1, 0, "#n"}, {impl.CodeFun, 2, 1, ".a"}, {impl.CodeCall, 3, 2, "(a a)"}, {impl.CodeZero, 4, 0, "0"}, {impl.CodeSucc, 5, 1, "+a"},
		{impl.CodeRec, 6, 3, "<a,a,a>"}, {impl.CodePair, 7, 2, "|a,a|"}, {impl.CodeFst, 8, 1, "^a"}, {impl.CodeSnd, 9, 1, "_a"}, {impl.CodeUnit, 10, 0, "?"},
	}
}

// extractedForms has the text of the program for each kind of term, where a to
// d are the programs of the operands.
func extractedForms() []string {
	return []string{"", "#n", "?", "?", ".b", "(a b)", "?", "0", "+a", "<b,c,d>", "?", "?", "c", "?", "|b,c|", "^a", "_a"}
}

func wantExtracted(x impl.Term) string {
	var out strings.Builder
	for _, b := range []byte(extractedForms()[x.Kind]) {
		switch {
		case b == 'n':
			out.WriteString(strconv.Itoa(x.N))
		case b >= 'a' && b <= 'd':
			out.WriteString(wantExtracted(x.Kids[b-'a']))
		default:
			out.WriteByte(b)
		}
	}
	return out.String()
}

// mkCode builds a program without any check.
func mkCode(kind int, kids ...impl.Code) impl.Code {
	return impl.Code{Kind: kind, Kids: kids}
}

func codeVar(n int) impl.Code { return impl.Code{Kind: impl.CodeVar, N: n} }

func codeZero() impl.Code { return mkCode(impl.CodeZero) }

func codeUnit() impl.Code { return mkCode(impl.CodeUnit) }

func codeSuccs(n int, c impl.Code) impl.Code {
	for range n {
		c = mkCode(impl.CodeSucc, c)
	}
	return c
}

// codeValue builds a value with the given number of nodes that is as flat as
// possible.
func codeValue(nodes int) impl.Code {
	switch nodes {
	case 1:
		return codeUnit()
	case 2:
		return mkCode(impl.CodeSucc, codeUnit())
	}
	left := (nodes - 1) / 2
	return mkCode(impl.CodePair, codeValue(left), codeValue(nodes-1-left))
}

func codeOperands(kind int) int { return codeRows()[kind-1].operands }

// codeText is the text of a program without regard to the limits.
func codeText(c impl.Code) string {
	var out strings.Builder
	next := 0
	for _, b := range []byte(codeRows()[c.Kind-1].text) {
		switch b {
		case 'n':
			out.WriteString(strconv.Itoa(c.N))
		case 'a':
			out.WriteString(codeText(c.Kids[next]))
			next++
		default:
			out.WriteByte(b)
		}
	}
	return out.String()
}

// program reads a text, also one of a program past the limits.
func program(t *testing.T, text string) impl.Code {
	t.Helper()
	c, rest := readCode(text)
	if rest != "" || codeText(c) != text {
		t.Fatalf("%q is not the text of a program", text)
	}
	return c
}

func readCode(text string) (impl.Code, string) {
	row := slices.IndexFunc(codeRows(), func(r codeRow) bool { return text != "" && r.text[0] == text[0] })
	if row < 0 {
		return impl.Code{}, "no program: " + text
	}
	c := mkCode(codeRows()[row].kind)
	for _, b := range []byte(codeRows()[row].text) {
		switch b {
		case 'n':
			digits := len(text) - len(strings.TrimLeft(text, "0123456789"))
			c.N, _ = strconv.Atoi(text[:digits])
			text = text[digits:]
		case 'a':
			var kid impl.Code
			kid, text = readCode(text)
			c.Kids = append(c.Kids, kid)
		default:
			text = strings.TrimPrefix(text, string(b))
		}
	}
	return c, text
}

func equalCode(a, b impl.Code) bool {
	return a.Kind == b.Kind && a.N == b.N && slices.EqualFunc(a.Kids, b.Kids, equalCode)
}

func copyCode(c impl.Code) impl.Code {
	again := impl.Code{Kind: c.Kind, N: c.N}
	for _, kid := range c.Kids {
		again.Kids = append(again.Kids, copyCode(kid))
	}
	return again
}

func isZeroCode(c impl.Code) bool {
	return c.Kind == 0 && c.N == 0 && len(c.Kids) == 0
}

// overwriteCode changes all memory of a program, including unused capacity.
func overwriteCode(c impl.Code) {
	kids := c.Kids[:cap(c.Kids)]
	for i := range kids {
		overwriteCode(kids[i])
		kids[i] = impl.Code{Kind: -1, N: -1}
	}
}

// checkSeparateCodes wants no two nodes of a program to share their operands.
func checkSeparateCodes(t *testing.T, c impl.Code) {
	t.Helper()
	seen := map[*impl.Code]bool{}
	var visit func(c impl.Code)
	visit = func(c impl.Code) {
		kids := c.Kids[:cap(c.Kids)]
		for i := range kids {
			if seen[&kids[i]] {
				t.Error("two parts of a program share memory")
			}
			seen[&kids[i]] = true
			visit(kids[i])
		}
	}
	visit(c)
}

// codeAround returns a program of the kind whose operand with the given index
// is c, and whose other operands are `?`.
func codeAround(kind int, index int, c impl.Code) impl.Code {
	kids := make([]impl.Code, codeOperands(kind))
	for i := range kids {
		kids[i] = codeUnit()
	}
	kids[index] = c
	return mkCode(kind, kids...)
}

// everyCodePlace calls f for each kind with operands and each of its operands.
func everyCodePlace(f func(kind int, index int)) {
	for _, row := range codeRows() {
		for index := range row.operands {
			f(row.kind, index)
		}
	}
}

func codeNodes(c impl.Code) int {
	n := 1
	for _, kid := range c.Kids {
		n += codeNodes(kid)
	}
	return n
}

func codeDepth(c impl.Code) int {
	deepest := 0
	for _, kid := range c.Kids {
		deepest = max(deepest, codeDepth(kid))
	}
	return 1 + deepest
}

func withinLimits(c impl.Code) bool { return codeNodes(c) <= 400 && codeDepth(c) <= 30 }

// openCode reports whether a variable of c passes more binders than there are.
func openCode(c impl.Code, binders int) bool {
	if c.Kind == impl.CodeFun {
		binders++
	}
	return c.Kind == impl.CodeVar && c.N >= binders || slices.ContainsFunc(c.Kids, func(kid impl.Code) bool { return openCode(kid, binders) })
}

// eachCodeVar replaces the variables from cut on.
func eachCodeVar(c impl.Code, cut int, f func(n, cut int) impl.Code) impl.Code {
	if c.Kind == impl.CodeVar && c.N >= cut {
		return f(c.N, cut)
	}
	if c.Kind == impl.CodeFun {
		cut++
	}
	again := impl.Code{Kind: c.Kind, N: c.N}
	for _, kid := range c.Kids {
		again.Kids = append(again.Kids, eachCodeVar(kid, cut, f))
	}
	return again
}

// putForZero is a substitution as in chapter 2, without any assumption about
// the other variables.
func putForZero(body, value impl.Code) impl.Code {
	return eachCodeVar(body, 0, func(n, cut int) impl.Code {
		if n > cut {
			return codeVar(n - 1)
		}
		return eachCodeVar(value, 0, func(n, _ int) impl.Code { return codeVar(n + cut) })
	})
}

func wantValue(c impl.Code) bool {
	switch c.Kind {
	case impl.CodeFun, impl.CodeZero, impl.CodeUnit:
		return true
	case impl.CodeSucc:
		return wantValue(c.Kids[0])
	case impl.CodePair:
		return wantValue(c.Kids[0]) && wantValue(c.Kids[1])
	}
	return false
}

// wantCodeStep needs c not to be a value.
func wantCodeStep(c impl.Code) (impl.Code, bool) {
	for i, kid := range c.Kids {
		if wantValue(kid) {
			continue
		}
		next, ok := wantCodeStep(kid)
		kids := slices.Clone(c.Kids)
		kids[i] = next
		return impl.Code{Kind: c.Kind, N: c.N, Kids: kids}, ok
	}
	switch last := len(c.Kids) - 1; {
	case c.Kind == impl.CodeCall && c.Kids[0].Kind == impl.CodeFun:
		return putForZero(c.Kids[0].Kids[0], c.Kids[1]), true
	case c.Kind == impl.CodeRec && c.Kids[last].Kind == impl.CodeZero:
		return c.Kids[0], true
	case c.Kind == impl.CodeRec && c.Kids[last].Kind == impl.CodeSucc:
		before := c.Kids[last].Kids[0]
		return mkCode(impl.CodeCall, mkCode(impl.CodeCall, c.Kids[1], before), mkCode(impl.CodeRec, c.Kids[0], c.Kids[1], before)), true
	case c.Kind == impl.CodeFst && c.Kids[0].Kind == impl.CodePair:
		return c.Kids[0].Kids[0], true
	case c.Kind == impl.CodeSnd && c.Kids[0].Kind == impl.CodePair:
		return c.Kids[0].Kids[1], true
	}
	return impl.Code{}, false
}

// codeTrace has a program and what follows by steps, up to the first one that
// is past a limit.
type codeTrace struct {
	programs []impl.Code
	stuck    bool
}

func traceCode(c impl.Code, most int) codeTrace {
	x := codeTrace{programs: []impl.Code{c}}
	for len(x.programs) <= most && !wantValue(c) && withinLimits(c) {
		next, ok := wantCodeStep(c)
		if !ok {
			x.stuck = true
			break
		}
		c = next
		x.programs = append(x.programs, c)
	}
	return x
}

func (x codeTrace) steps() int { return len(x.programs) - 1 }

// run needs the trace to have more steps than the fuel, or to have an end.
func (x codeTrace) run(fuel int) (impl.Code, int) {
	for step, c := range x.programs {
		switch {
		case !withinLimits(c):
			return impl.Code{}, impl.RunLarge
		case wantValue(c):
			return c, impl.RunValue
		case x.stuck && step == x.steps():
			return impl.Code{}, impl.RunStuck
		case step == fuel:
			return impl.Code{}, impl.RunFuel
		}
	}
	panic("the trace is too short")
}

func checkRun(t *testing.T, c impl.Code, fuel int, want impl.Code, wantCode int) {
	t.Helper()
	before := copyCode(c)
	got, code := impl.RunCode(c, fuel)
	if code != wantCode || !equalCode(got, want) {
		t.Errorf("RunCode(%s, %d) = %v, %d, want %v, %d", codeText(c), fuel, got, code, want, wantCode)
	}
	if !equalCode(c, before) {
		t.Errorf("RunCode(%s, %d) changes its argument", codeText(before), fuel)
	}
}

// checkRuns compares the runs with the given fuels, and with those next to the
// number of steps, or with all of them if there are none given.
func checkRuns(t *testing.T, c impl.Code, fuels ...int) codeTrace {
	t.Helper()
	x := traceCode(c, impl.MaxFuel+1)
	if len(fuels) == 0 {
		for fuel := range x.steps() + 3 {
			fuels = append(fuels, fuel)
		}
	}
	for _, fuel := range append(fuels, x.steps()-1, x.steps(), x.steps()+1, impl.MaxFuel) {
		if fuel >= 0 && fuel <= impl.MaxFuel {
			want, wantCode := x.run(fuel)
			checkRun(t, c, fuel, want, wantCode)
		}
	}
	return x
}

func TestTableOfPrograms(t *testing.T) {
	for _, row := range codeRows() {
		if row.constant != row.kind {
			t.Errorf("the constant of %s is %d, want %d", row.text, row.constant, row.kind)
		}
	}
	got := []int{impl.RunValue, impl.RunFuel, impl.RunLarge, impl.RunStuck, impl.RunWrong}
	if !slices.Equal(got, []int{0, 1, 2, 3, 4}) {
		t.Errorf("the codes of runs are %v", got)
	}
}

// checkExtracted compares with a text and, if it is not empty, also with a
// program that is built from it.
func checkExtracted(t *testing.T, x impl.Term, text string) {
	t.Helper()
	before := copyTerm(x)
	got, ok := impl.ExtractTerm(x)
	if !ok || !equalCode(got, program(t, text)) || impl.FormatCode(got) != text || !impl.CodeValid(got) {
		t.Errorf("ExtractTerm(%s) = %v, %v, want %s", textOf(x), got, ok, text)
	}
	if !equalTerm(x, before) {
		t.Errorf("ExtractTerm(%s) changes its argument", textOf(before))
	}
	checkSeparateCodes(t, got)
}

func TestProgramOfEachKind(t *testing.T) {
	for _, c := range [][2]string{
		{"#0", "#0"}, {"#7", "#7"}, {"#20", "#20"}, {"*0", "?"}, {"*3", "?"}, {"(N>#0)", "?"}, {"(#1>(#0 #1))", "?"}, {"[N]#0", ".#0"}, {"[#3]#1", ".#1"}, {"[[N]#0]0", ".0"},
		{"(#1 #0)", "(#1 #0)"}, {"([N]#0 [*0]N)", "(.#0 .?)"}, {"N", "?"}, {"0", "0"}, {"+0", "+0"}, {"+++#4", "+++#4"}, {"<#3,#2,#1,#0>", "<#2,#1,#0>"},
		{"<[N]N,0,[N][N]#1,++0>", "<0,..#1,++0>"}, {"<[N]{N,0,#0},!0,N,*2>", "<?,?,?>"}, {"{N,#1,0}", "?"}, {"{#0,#1,#2}", "?"}, {"!0", "?"}, {"!#3", "?"},
		{"@<#2,#1,#0>", "#0"}, {"@<[N]N,!0,[N]#0>", ".#0"}, {"@<N,0,@<N,0,@<N,0,+0>>>", "+0"}, {"+@<N,0,@<N,0,+0>>", "++0"}, {"(N*#0)", "?"}, {"(#0*(#1 #0))", "?"}, {"|#2,#1,#0|", "|#1,#0|"},
		{"|(N*N),0,+0|", "|0,+0|"}, {"||#0,#1,#2|,|#3,#4,#5|,|#6,#7,#8||", "||#4,#5|,|#7,#8||"}, {"^#1", "^#1"}, {"_#1", "_#1"}, {"^_^|N,0,N|", "^_^|0,?|"},
		{"[N][*0][#0](#2 #1)", "...(#2 #1)"}, {"(N>[N]#0)", "?"}, {"[(N>#3)][(N*#4)](#1 #20)", "..(#1 #20)"}, {"{N,[N]#0,0}", "?"}, {"![N]#0", "?"}, {"(([*0][#0]#0 N) 0)", "((..#0 ?) 0)"},
	} {
		x := parse(t, c[0])
		if wantExtracted(x) != c[1] {
			t.Errorf("the second writing has %s for %s", wantExtracted(x), c[0])
		}
		checkExtracted(t, x, c[1])
	}
}

func TestProgramsOfEveryOperand(t *testing.T) {
	inner := []impl.Term{
		variable(0), variable(20), sort(2), nat(), zero(), succs(2, variable(1)), parse(t, "[N](#0 #1)"), parse(t, "(N>#0)"), parse(t, "!#0"), parse(t, "@<N,#1,#2>"), parse(t, "<N,#1,#2,#3>"), parse(t, "|N,#1,#2|"), parse(t, "^_#0"),
	}
	everyPlace(func(kind, index int) {
		for _, x := range inner {
			y := around(kind, index, x)
			checkExtracted(t, y, wantExtracted(y))
			everyPlace(func(kind, index int) {
				z := around(kind, index, y)
				checkExtracted(t, z, wantExtracted(z))
			})
		}
	})
}

func TestProgramsOfRandomTerms(t *testing.T) {
	r := rand.New(rand.NewSource(12))
	seen := 0
	for range 20000 {
		if x := randomTerm(r, 1+r.Intn(7)); impl.TermValid(x) {
			checkExtracted(t, x, wantExtracted(x))
			seen++
		}
	}
	if seen < 10000 {
		t.Errorf("only %d terms were tried", seen)
	}
}

func TestProgramsOfLargeTerms(t *testing.T) {
	for _, nodes := range []int{399, 400} {
		checkExtracted(t, sized(nodes), wantExtracted(sized(nodes)))
	}
	deepest := succs(29, variable(20))
	checkExtracted(t, deepest, strings.Repeat("+", 29)+"#20")
	everyPlace(func(kind, index int) {
		x := nat()
		for range 29 {
			x = around(kind, index, x)
		}
		checkExtracted(t, x, wantExtracted(x))
	})
}

func TestExtractionOfInvalidTerms(t *testing.T) {
	for i, x := range invalidTerms() {
		if c, ok := impl.ExtractTerm(x); ok || !isZeroCode(c) {
			t.Errorf("ExtractTerm of the invalid term %d = %v, %v", i, c, ok)
		}
	}
	everyPlace(func(kind, index int) {
		for _, x := range []impl.Term{{}, mk(17), variable(21), sort(4), mk(impl.TermSucc)} {
			if c, ok := impl.ExtractTerm(around(kind, index, x)); ok || !isZeroCode(c) {
				t.Errorf("ExtractTerm of an invalid term in the operand %d of the kind %d = %v, %v", index, kind, c, ok)
			}
		}
	})
}

// checkCode compares what the functions say of a program with valid.
func checkCode(t *testing.T, what string, c impl.Code, valid bool) {
	t.Helper()
	if impl.CodeValid(c) != valid {
		t.Errorf("%s: CodeValid = %v", what, !valid)
	}
	text, nodes := "", 0
	if valid {
		text, nodes = codeText(c), codeNodes(c)
	}
	if got := impl.FormatCode(c); got != text {
		t.Errorf("%s: FormatCode = %q, want %q", what, got, text)
	}
	if got := impl.CountCode(c); got != nodes {
		t.Errorf("%s: CountCode = %d, want %d", what, got, nodes)
	}
	if valid {
		return
	}
	if n, ok := impl.CodeNumber(c); n != 0 || ok {
		t.Errorf("%s: CodeNumber = %d, %v", what, n, ok)
	}
	for _, fuel := range []int{-1, 0, 1, 200, 201} {
		if v, code := impl.RunCode(c, fuel); code != impl.RunWrong || !isZeroCode(v) {
			t.Errorf("%s: RunCode with the fuel %d = %v, %d", what, fuel, v, code)
		}
	}
}

// checkCodeAnywhere also puts the program below each kind of node.
func checkCodeAnywhere(t *testing.T, what string, c impl.Code, valid bool) {
	t.Helper()
	checkCode(t, what, c, valid)
	everyCodePlace(func(kind, index int) {
		checkCode(t, what+" below a node", codeAround(kind, index, c), valid)
	})
}

func TestProgramsAndTexts(t *testing.T) {
	for _, c := range []struct {
		text  string
		nodes int
	}{
		{"#0", 1}, {"#20", 1}, {".#0", 2}, {"(#1 #0)", 3}, {"0", 1}, {"+0", 2}, {"<#2,#1,#0>", 4}, {"|#1,#0|", 3}, {"^#0", 2}, {"_#0", 2}, {"?", 1},
		{"(.+#0 ++0)", 7}, {"...<#2,..#1,+#10>", 10}, {"^_|0,|?,.#0||", 8}, {"((#0 #1) (#2 #3))", 7}, {"<<0,0,0>,|0,0|,(? ?)>", 11},
	} {
		x := program(t, c.text)
		checkCode(t, c.text, x, true)
		if impl.FormatCode(x) != c.text || impl.CountCode(x) != c.nodes {
			t.Errorf("%s: %s with %d nodes", c.text, impl.FormatCode(x), impl.CountCode(x))
		}
	}
}

func TestNodesOfPrograms(t *testing.T) {
	for _, row := range codeRows() {
		for operands := range 6 {
			kids := slices.Repeat([]impl.Code{codeUnit()}, operands)
			checkCodeAnywhere(t, fmt.Sprint(row.text, " with ", operands, " operands"), mkCode(row.kind, kids...), operands == row.operands)
		}
		for _, n := range []int{math.MinInt, -21, -1, 0, 1, 2, 3, 19, 20, 21, 22, 1 << 32, math.MaxInt} {
			c := impl.Code{Kind: row.kind, N: n, Kids: slices.Repeat([]impl.Code{codeZero()}, row.operands)}
			checkCodeAnywhere(t, fmt.Sprint(row.text, " with the N ", n), c, n == 0 || row.kind == impl.CodeVar && n > 0 && n <= 20)
		}
		if c := (impl.Code{Kind: row.kind, Kids: []impl.Code{}}); impl.CodeValid(c) != (row.operands == 0) {
			t.Errorf("%s with an empty list: CodeValid = %v", row.text, impl.CodeValid(c))
		}
	}
	for _, kind := range []int{math.MinInt, -1, 0, 11, 12, 16, 17, 100, 1<<32 + 4, math.MaxInt} {
		for operands := range 4 {
			checkCodeAnywhere(t, fmt.Sprint("the kind ", kind), mkCode(kind, slices.Repeat([]impl.Code{codeUnit()}, operands)...), false)
		}
	}
}

func TestLimitsOfPrograms(t *testing.T) {
	for _, nodes := range []int{1, 2, 3, 399, 400, 401, 402, 1000, 100000} {
		checkCode(t, "nodes", codeValue(nodes), nodes <= 400)
	}
	everyCodePlace(func(kind, index int) {
		rest := 400 - codeOperands(kind)
		checkCode(t, "400 nodes, most in one operand", codeAround(kind, index, codeValue(rest)), true)
		checkCode(t, "401 nodes, most in one operand", codeAround(kind, index, codeValue(rest+1)), false)
		c := codeUnit()
		for range 29 {
			c = codeAround(kind, index, c)
		}
		checkCode(t, "depth 30", c, true)
		checkCode(t, "depth 31", codeAround(kind, index, c), false)
		checkCode(t, "depth 31, at the bottom", codeAround(kind, index, codeAround(impl.CodeFst, 0, codeSuccs(28, codeZero()))), false)
	})
}

// codeRing contains itself after the given number of nodes.
func codeRing(nodes int, kind int) impl.Code {
	first := mkCode(kind, codeUnit())
	last := first
	for range nodes - 1 {
		last.Kids[0] = mkCode(kind, codeUnit())
		last = last.Kids[0]
	}
	last.Kids[0] = first
	return first
}

// codeDoubled has 2 to the power of levels leaves in little memory.
func codeDoubled(levels int, leaf impl.Code) impl.Code {
	for range levels {
		leaf = mkCode(impl.CodePair, leaf, leaf)
	}
	return leaf
}

func TestProgramsThatAreHuge(t *testing.T) {
	checkCode(t, "shared parts within the limit", codeDoubled(7, codeUnit()), true)
	checkCode(t, "shared parts past the limit", codeDoubled(8, codeUnit()), false)
	checkCode(t, "shared parts far past the limit", codeDoubled(100, codeUnit()), false)
	checkCode(t, "a very deep program", codeSuccs(1000000, codeZero()), false)
	for _, kind := range []int{impl.CodeFun, impl.CodeSucc, impl.CodeFst, impl.CodeSnd} {
		checkCodeAnywhere(t, "a program that contains itself", codeRing(1, kind), false)
		checkCodeAnywhere(t, "a program that contains itself", codeRing(3, kind), false)
	}
}

// checkCodeSame calls CodeSame in both orders, also with copies.
func checkCodeSame(t *testing.T, what string, a, b impl.Code, want bool) {
	t.Helper()
	if impl.CodeSame(a, b) != want || impl.CodeSame(b, a) != want {
		t.Errorf("%s: CodeSame = %v and %v, want %v", what, impl.CodeSame(a, b), impl.CodeSame(b, a), want)
	}
}

func TestCodeSame(t *testing.T) {
	list := []impl.Code{
		{}, mkCode(11), mkCode(-1), codeVar(21), codeVar(-1), {Kind: impl.CodeUnit, N: 1}, mkCode(impl.CodeSucc), mkCode(impl.CodeSucc, codeZero(), codeZero()),
		mkCode(impl.CodeUnit, codeUnit()), mkCode(impl.CodeUnit, mkCode(99)), mkCode(11, codeUnit()), mkCode(11, codeZero()), mkCode(0, codeUnit(), codeZero()), mkCode(0, codeZero(), codeUnit()),
		codeSuccs(29, codeZero()), codeSuccs(30, codeZero()), codeSuccs(31, codeZero()), codeValue(399), codeValue(400), codeValue(401), codeValue(402),
	}
	for _, text := range []string{
		"#0", "#1", "#20", ".#0", ".#1", "(#1 #0)", "(#0 #1)", "(#0 #0)", "0", "+0", "++0", "<0,0,0>", "<0,0,?>", "<0,?,0>", "<?,0,0>", "|#1,#0|", "|#0,#1|", "^#0", "_#0", "+#0", "?", "..#0", "..#1", "|(0 0),0|", "|0,(0 0)|", "(|0,0| 0)",
	} {
		list = append(list, program(t, text))
	}
	for i, a := range list {
		for j, b := range list {
			checkCodeSame(t, fmt.Sprint("the programs ", i, " and ", j), a, copyCode(b), i == j)
		}
	}
	checkCodeSame(t, "an empty list of operands and none", impl.Code{Kind: impl.CodeUnit, Kids: []impl.Code{}}, codeUnit(), true)
}

// changedCodes returns copies of c that differ from it in one place.
func changedCodes(c impl.Code) []impl.Code {
	list := []impl.Code{
		{Kind: c.Kind + 1, N: c.N, Kids: c.Kids}, {Kind: c.Kind - 1, N: c.N, Kids: c.Kids}, {Kind: c.Kind, N: c.N + 1, Kids: c.Kids}, {Kind: c.Kind, N: c.N - 1, Kids: c.Kids}, {Kind: c.Kind, N: c.N, Kids: append(slices.Clone(c.Kids), codeUnit())},
	}
	if last := len(c.Kids) - 1; last >= 0 {
		list = append(list, impl.Code{Kind: c.Kind, N: c.N, Kids: c.Kids[:last]})
	}
	for i, kid := range c.Kids {
		for _, other := range changedCodes(kid) {
			kids := slices.Clone(c.Kids)
			kids[i] = other
			list = append(list, impl.Code{Kind: c.Kind, N: c.N, Kids: kids})
		}
	}
	return list
}

func TestProgramsThatDifferInOnePlace(t *testing.T) {
	for _, c := range []impl.Code{program(t, "<|0,#3|,.(#0 ^?),_+(#1 #2)>"), mkCode(0, mkCode(-1), codeVar(25), mkCode(impl.CodeSucc, codeUnit(), codeSuccs(40, codeUnit()))), codeValue(60)} {
		checkCodeSame(t, "a copy", c, copyCode(c), true)
		for i, other := range changedCodes(c) {
			checkCodeSame(t, fmt.Sprint("the change ", i), c, copyCode(other), false)
		}
	}
}

func TestCodeSameOfHugePrograms(t *testing.T) {
	const depth = 1000000
	a, b, c := codeSuccs(depth, codeZero()), codeSuccs(depth, codeZero()), codeSuccs(depth, codeUnit())
	checkCodeSame(t, "very deep programs", a, b, true)
	checkCodeSame(t, "very deep programs with different leaves", a, c, false)
	checkCodeSame(t, "very deep programs of different depth", a, b.Kids[0], false)
	checkCodeSame(t, "a very deep program and a small one", a, codeSuccs(3, codeZero()), false)
	a, b, c = codeDoubled(100, codeUnit()), codeDoubled(100, codeUnit()), codeDoubled(100, codeZero())
	checkCodeSame(t, "shared parts", a, b, true)
	checkCodeSame(t, "a program and itself", a, a, true)
	checkCodeSame(t, "shared parts with different leaves", a, c, false)
	checkCodeSame(t, "shared parts of different depth", a, codeDoubled(99, codeUnit()), false)
	a, b, c = codeRing(2, impl.CodeSucc), codeRing(3, impl.CodeSucc), codeRing(2, impl.CodeFst)
	checkCodeSame(t, "programs that contain themselves", a, b, true)
	checkCodeSame(t, "programs of different kinds that contain themselves", a, c, false)
	checkCodeSame(t, "a program that contains itself and one that does not", a, codeSuccs(50, codeZero()), false)
	checkCodeSame(t, "large programs that contain themselves", codeRing(10007, impl.CodeSucc), codeRing(10009, impl.CodeSucc), true)
}

func TestNumbersOfPrograms(t *testing.T) {
	for n := range 40 {
		c := codeSuccs(n, codeZero())
		want, exists := n, n <= 20
		if !exists {
			want = 0
		}
		if got, ok := impl.CodeNumber(c); got != want || ok != exists {
			t.Errorf("CodeNumber of %d CodeSucc = %d, %v", n, got, ok)
		}
		if got, ok := impl.CodeNumber(codeSuccs(n, codeUnit())); got != 0 || ok {
			t.Errorf("CodeNumber of %d CodeSucc around `?` = %d, %v", n, got, ok)
		}
	}
	for _, text := range []string{"#0", ".0", "(.#0 0)", "+#0", "+.0", "<0,0,0>", "|0,0|", "+|0,0|", "^|0,0|", "_0", "?", "+?", "++(.#0 0)", "+++^|0,0|"} {
		if n, ok := impl.CodeNumber(program(t, text)); n != 0 || ok {
			t.Errorf("CodeNumber(%s) = %d, %v", text, n, ok)
		}
	}
}

// runCase is a program with what it becomes in how many steps: a value, or
// something else where stuck begins the text.
type runCase struct {
	text  string
	steps int
	end   string
}

func checkRunCases(t *testing.T, cases []runCase) {
	t.Helper()
	for _, c := range cases {
		x := checkRuns(t, program(t, c.text))
		end := codeText(x.programs[x.steps()])
		if x.stuck {
			end = "stuck " + end
		}
		if x.steps() != c.steps || end != c.end {
			t.Errorf("%s becomes %s after %d steps in the second writing", c.text, end, x.steps())
		}
	}
}

func TestProgramsThatAreValues(t *testing.T) {
	checkRunCases(t, []runCase{
		{"0", 0, "0"}, {"?", 0, "?"}, {".#0", 0, ".#0"}, {"+0", 0, "+0"}, {"+?", 0, "+?"}, {"++.#0", 0, "++.#0"}, {"|0,?|", 0, "|0,?|"}, {"|.#0,+|0,0||", 0, "|.#0,+|0,0||"},
		{".(.#0 0)", 0, ".(.#0 0)"}, {".^0", 0, ".^0"}, {"..(#0 #1)", 0, "..(#0 #1)"}, {".(.(#0 #0) .(#0 #0))", 0, ".(.(#0 #0) .(#0 #0))"},
		{"|.(.#0 0),+.<0,0,0>|", 0, "|.(.#0 0),+.<0,0,0>|"}, {"+++++++++++++++++++++++++++++0", 0, "+++++++++++++++++++++++++++++0"},
	})
}

func TestStepsOfPrograms(t *testing.T) {
	checkRunCases(t, []runCase{
		{"(.+#0 ++0)", 1, "+++0"}, {"(.0 ?)", 1, "0"}, {"(.#0 .#0)", 1, ".#0"}, {"(.|#0,#0| +0)", 1, "|+0,+0|"}, {"(..#0 ?)", 1, ".#0"}, {"(..#1 +0)", 1, ".+0"},
		{"<+0,0,0>", 1, "+0"}, {"<0,..+#0,+0>", 4, "+0"}, {"<0,..#1,++0>", 7, "+0"}, {"<+0,..++#0,++0>", 7, "+++++0"}, {"<?,...#0,+0>", 4, ".#0"},
		{"^|0,+0|", 1, "0"}, {"_|0,+0|", 1, "+0"}, {"^|.(.#0 0),?|", 1, ".(.#0 0)"}, {"^_|0,|?,+0||", 2, "?"}, {"_^||0,+0|,0|", 2, "+0"},
	})
}

func TestStepsInOperands(t *testing.T) {
	checkRunCases(t, []runCase{
		{"+(.#0 0)", 1, "+0"}, {"|(.#0 0),(.#0 ?)|", 2, "|0,?|"}, {"|0,(.#0 ?)|", 1, "|0,?|"}, {"||0,+|?,^|0,0|||,0|", 1, "||0,+|?,0||,0|"}, {"((.#0 .+#0) (.#0 0))", 3, "+0"},
		{"(.0 (.#0 0))", 2, "0"}, {"(.0 ^|?,0|)", 2, "0"}, {"<(.#0 0),(.#0 ..+#0),(.#0 +0)>", 7, "+0"}, {"<0,(.#0 .?),0>", 2, "0"}, {"^|0,(.#0 0)|", 2, "0"}, {"_|(.#0 ?),0|", 2, "0"},
		{"^(.|#0,0| +0)", 2, "+0"}, {"(^|.+#0,0| _|0,+0|)", 3, "++0"},
	})
}

func TestStuckPrograms(t *testing.T) {
	checkRunCases(t, []runCase{
		{"(0 0)", 0, "stuck (0 0)"}, {"(? 0)", 0, "stuck (? 0)"}, {"(+0 0)", 0, "stuck (+0 0)"}, {"(+.#0 0)", 0, "stuck (+.#0 0)"}, {"(|.#0,.#0| 0)", 0, "stuck (|.#0,.#0| 0)"},
		{"<0,..0,?>", 0, "stuck <0,..0,?>"}, {"<0,..0,.0>", 0, "stuck <0,..0,.0>"}, {"<0,..0,|0,0|>", 0, "stuck <0,..0,|0,0|>"}, {"<0,..0,+?>", 2, "stuck (.0 <0,..0,?>)"}, {"<0,0,+0>", 0 + 1, "stuck ((0 0) <0,0,0>)"},
		{"^0", 0, "stuck ^0"}, {"^?", 0, "stuck ^?"}, {"^.0", 0, "stuck ^.0"}, {"^+|0,0|", 0, "stuck ^+|0,0|"}, {"_0", 0, "stuck _0"}, {"_?", 0, "stuck _?"}, {"_.0", 0, "stuck _.0"}, {"_+|0,0|", 0, "stuck _+|0,0|"},
		{"+^0", 0, "stuck +^0"}, {"|^0,(.#0 0)|", 0, "stuck |^0,(.#0 0)|"}, {"|(.#0 0),^0|", 1, "stuck |0,^0|"}, {"((0 0) (.#0 0))", 0, "stuck ((0 0) (.#0 0))"}, {"(0 (.#0 0))", 1, "stuck (0 0)"}, {"(.#0 ^0)", 0, "stuck (.#0 ^0)"},
		{"<^0,(.#0 ..0),(.#0 0)>", 0, "stuck <^0,(.#0 ..0),(.#0 0)>"}, {"<(.#0 0),^0,(.#0 0)>", 1, "stuck <0,^0,(.#0 0)>"}, {"<(.#0 0),(.#0 ..0),^0>", 2, "stuck <0,..0,^0>"},
		{"^|0,^0|", 0, "stuck ^|0,^0|"}, {"_|^0,0|", 0, "stuck _|^0,0|"}, {"|+|0,_(.#0 0)|,(.#0 0)|", 1, "stuck |+|0,_0|,(.#0 0)|"}, {"(.^#0 0)", 1, "stuck ^0"}, {"(^0 (.(#0 #0) .(#0 #0)))", 0, "stuck (^0 (.(#0 #0) .(#0 #0)))"},
		{"((..#1 ^0) 0)", 0, "stuck ((..#1 ^0) 0)"}, {"^^|0,^0|", 0, "stuck ^^|0,^0|"},
	})
}

func TestSubstitutionBelowFunctions(t *testing.T) {
	checkRunCases(t, []runCase{
		{"(..(#1 #0) +0)", 1, ".(+0 #0)"}, {"(..(#0 #1) .#0)", 1, ".(#0 .#0)"}, {"(...|#0,|#1,#2|| ?)", 1, "..|#0,|#1,?||"}, {"(.|#0,.|#0,#1|| 0)", 1, "|0,.|#0,0||"}, {"(.|.#1,#0| .#0)", 1, "|..#0,.#0|"},
		{"(.(..#1 #0) 0)", 2, ".0"}, {"(..<#1,#0,#1> |0,.#0|)", 1, ".<|0,.#0|,#0,|0,.#0|>"}, {"(..(^#0 _#1) ..#1)", 1, ".(^#0 _..#1)"}, {"(.+.+.+#2 0)", 1, "+.+.+0"},
		{"((..(#1 #0) .+#0) 0)", 3, "+0"}, {"((...((#2 #1) #0) ..#1) .#0)", 2, ".((..#1 .#0) #0)"}, {"(((...((#2 #1) #0) ..#1) .#0) ?)", 5, ".#0"}, {"((..(#1 (#1 #0)) .++#0) 0)", 4, "++++0"},
		{"(((..(#1 (#1 #0)) ..(#1 (#1 #0))) .+#0) 0)", 11, "++++0"}, {"(((....((#3 #2) (#1 #0)) ..#0) .?) .#0)", 3, ".((..#0 .?) (.#0 #0))"}, {"(...(#2 .(#3 #1)) .#0)", 1, "..(.#0 .(.#0 #1))"},
	})
}

func TestProgramWithTheHighestVariable(t *testing.T) {
	x := program(t, "("+strings.Repeat(".", 21)+"|#20,|#19,#0|| +0)")
	if got, code := impl.RunCode(x, 1); code != impl.RunValue || impl.FormatCode(got) != strings.Repeat(".", 20)+"|+0,|#19,#0||" {
		t.Errorf("RunCode = %s, %d", impl.FormatCode(got), code)
	}
	checkRuns(t, x)
}

func TestProgramsWithoutAValue(t *testing.T) {
	for _, text := range []string{"(.(#0 #0) .(#0 #0))", "|(.(#0 #0) .(#0 #0)),^0|", "(.0 (.(#0 #0) .(#0 #0)))", "((.(#0 #0) .(#0 #0)) ^0)", "(.(#0 .(#0 #0)) .(#0 #0))"} {
		x := program(t, text)
		checkRuns(t, x, 0, 1, 2, 20, 199, 200)
		if got, code := impl.RunCode(x, impl.MaxFuel); code != impl.RunFuel || !isZeroCode(got) {
			t.Errorf("RunCode(%s) = %v, %d", text, got, code)
		}
	}
}

// calls builds a program that needs the given number of steps.
func calls(steps int) impl.Code {
	each := make([]impl.Code, 8)
	for i := range each {
		c := codeZero()
		for range (steps + i) / len(each) {
			c = mkCode(impl.CodeCall, mkCode(impl.CodeFun, codeVar(0)), c)
		}
		each[i] = c
	}
	for len(each) > 1 {
		each = append(each[2:], mkCode(impl.CodePair, each[0], each[1]))
	}
	return each[0]
}

func TestFuelOfRuns(t *testing.T) {
	for _, steps := range []int{0, 1, 2, 8, 50} {
		x := calls(steps)
		value := program(t, "|||0,0|,|0,0||,||0,0|,|0,0|||")
		if steps > 0 {
			checkRun(t, x, steps-1, impl.Code{}, impl.RunFuel)
			checkRun(t, x, 0, impl.Code{}, impl.RunFuel)
		}
		checkRun(t, x, steps, value, impl.RunValue)
		checkRun(t, x, steps+1, value, impl.RunValue)
		checkRun(t, x, 200, value, impl.RunValue)
	}
	for _, fuel := range []int{math.MinInt, -200, -2, -1, 201, 202, 1 << 32, math.MaxInt} {
		for _, text := range []string{"0", ".#0", "(.#0 0)", "^0", "(.(#0 #0) .(#0 #0))", "#0"} {
			checkRun(t, program(t, text), fuel, impl.Code{}, impl.RunWrong)
		}
	}
	base := program(t, "(.(#0 (#0 (#0 (#0 (#0 (#0 (#0 (#0 0)))))))) (..(#1 (#1 #0)) (..(#1 (#1 #0)) .#0)))")
	each := traceCode(base, impl.MaxFuel).steps()
	for _, c := range []struct{ steps, code int }{{198, impl.RunValue}, {199, impl.RunValue}, {200, impl.RunValue}, {201, impl.RunFuel}, {202, impl.RunFuel}} {
		x := mkCode(impl.CodePair, mkCode(impl.CodePair, base, base), mkCode(impl.CodePair, base, calls(c.steps-3*each)))
		seen := checkRuns(t, x, 0, 100, 197, 198, 199, 200)
		if _, code := impl.RunCode(x, impl.MaxFuel); code != c.code || seen.steps() != min(c.steps, 201) {
			t.Errorf("RunCode of a program with %d steps has the code %d", seen.steps(), code)
		}
	}
}

// checkLarge wants a step to be too large if the next program is past a limit,
// but only if there is fuel for it.
func checkLarge(t *testing.T, what string, c, next impl.Code) {
	t.Helper()
	checkRuns(t, c, 0, 1)
	checkRun(t, c, 0, impl.Code{}, impl.RunFuel)
	if _, code := impl.RunCode(c, 1); (code == impl.RunLarge) == withinLimits(next) {
		t.Errorf("%s: a step to %d nodes and the depth %d has the code %d", what, codeNodes(next), codeDepth(next), code)
	}
}

// withNodes checks that a test has built what it is about.
func withNodes(t *testing.T, c impl.Code, nodes int) impl.Code {
	t.Helper()
	if got := codeNodes(c); got != nodes {
		t.Fatalf("%d nodes, want %d", got, nodes)
	}
	return c
}

func TestNodesOfAStepOfAProgram(t *testing.T) {
	for nodes := 398; nodes <= 402; nodes++ {
		argument := codeValue(100)
		body := program(t, "|?,|#0,+#0||")
		body.Kids[0] = codeValue(nodes - 203)
		checkLarge(t, "a call", mkCode(impl.CodeCall, mkCode(impl.CodeFun, body), argument), withNodes(t, putForZero(body, argument), nodes))
		rec := mkCode(impl.CodeRec, codeValue(nodes-3-2*20-2*30), codeValue(20), mkCode(impl.CodeSucc, codeValue(30)))
		next, _ := wantCodeStep(rec)
		checkLarge(t, "a recursion", rec, withNodes(t, next, nodes))
	}
}

func TestNodesAroundAStepOfAProgram(t *testing.T) {
	step, next := program(t, "(.|#0,#0| ?)"), program(t, "|?,?|")
	step.Kids[1], next.Kids[0], next.Kids[1] = codeValue(150), codeValue(150), codeValue(150)
	everyCodePlace(func(kind, index int) {
		if kind == impl.CodeFun {
			return
		}
		for nodes := 398; nodes <= 402; nodes++ {
			behind := codeValue(nodes - 302 - codeOperands(kind))
			c := codeAround(kind, index, mkCode(impl.CodePair, step, behind))
			after := codeAround(kind, index, mkCode(impl.CodePair, next, behind))
			checkLarge(t, fmt.Sprintf("a call in the operand %d of the kind %d", index, kind), c, withNodes(t, after, nodes))
			if last := codeOperands(kind) - 1; last > 0 {
				other := last
				if index == last {
					other = 0
				}
				c, after = codeAround(kind, index, step), codeAround(kind, index, next)
				c.Kids[other] = codeValue(nodes - 300 - codeOperands(kind))
				after.Kids[other] = c.Kids[other]
				checkLarge(t, fmt.Sprintf("a call in the operand %d of the kind %d", index, kind), c, withNodes(t, after, nodes))
			}
		}
	})
}

func TestDepthOfAStepOfAProgram(t *testing.T) {
	for depth := 28; depth <= 32; depth++ {
		body := codeSuccs(14, codeVar(0))
		c := mkCode(impl.CodeCall, mkCode(impl.CodeFun, body), codeSuccs(depth-15, codeZero()))
		checkLarge(t, "a call", c, codeSuccs(depth-1, codeZero()))
		everyCodePlace(func(kind, index int) {
			if kind == impl.CodeFun {
				return
			}
			c := mkCode(impl.CodeCall, mkCode(impl.CodeFun, codeSuccs(8, codeVar(0))), codeSuccs(depth-12, codeZero()))
			next := codeSuccs(depth-4, codeZero())
			for range 3 {
				c, next = codeAround(kind, index, c), codeAround(kind, index, next)
			}
			checkLarge(t, fmt.Sprintf("a call in the operand %d of the kind %d", index, kind), c, next)
		})
		for index := range 3 {
			c := program(t, "<0,0,+0>")
			c.Kids[index] = codeSuccs(depth-3, codeZero())
			if index == 2 {
				c.Kids[index] = codeSuccs(depth-2, codeZero())
			}
			next, _ := wantCodeStep(c)
			if withinLimits(c) {
				checkLarge(t, "a recursion", c, next)
			}
		}
	}
}

func TestProgramThatGrows(t *testing.T) {
	for _, c := range []struct {
		text  string
		steps int // before the one that is too large
	}{
		{"(.(#0 #0) .|#0,(#0 #0)|)", 1}, {"(.(#0 #0) .+(#0 #0))", 28}, {"<?,..|#0,#0|,++++++++0>", -1}, {"<?,..|#0,|#0,|#0,#0|||,+++++0>", -1},
	} {
		x := program(t, c.text)
		seen := checkRuns(t, x)
		large := seen.steps() - 1
		if withinLimits(seen.programs[seen.steps()]) {
			t.Errorf("%s does not become too large in the second writing", c.text)
			continue
		}
		checkRun(t, x, large, impl.Code{}, impl.RunFuel)
		checkRun(t, x, large+1, impl.Code{}, impl.RunLarge)
		checkRun(t, x, impl.MaxFuel, impl.Code{}, impl.RunLarge)
	}
}

func TestRunsThatAreWrong(t *testing.T) {
	open := []impl.Code{codeVar(0), codeVar(20), program(t, ".#1"), program(t, "..#2"), program(t, ".(#0 #1)"), program(t, "|.#0,#0|"), program(t, "(.0 #0)"), program(t, "(..#2 0)"), program(t, "|^0,#0|"), program(t, "((.(#0 #0) .(#0 #0)) #0)")}
	for _, c := range open {
		for _, fuel := range []int{-1, 0, 1, 200, 201} {
			checkRun(t, c, fuel, impl.Code{}, impl.RunWrong)
			everyCodePlace(func(kind, index int) {
				x := codeAround(kind, index, c)
				if kind == impl.CodeFun { // which may be the binder for the variable
					x = codeAround(kind, index, putForZero(c, codeVar(1)))
				}
				if openCode(x, 0) {
					checkRun(t, x, fuel, impl.Code{}, impl.RunWrong)
				}
			})
		}
	}
	for _, text := range []string{".#0", "..#1", ".|#0,.#1|", ".(.#0 #0)"} {
		checkRun(t, program(t, text), 0, program(t, text), impl.RunValue)
	}
}

// randomCode builds a closed program that often has a step.
func randomCode(r *rand.Rand, depth, binders int) impl.Code {
	sub := func() impl.Code { return randomCode(r, depth-1, binders) }
	function := func() impl.Code {
		return mkCode(impl.CodeFun, randomCode(r, depth-1, binders+1))
	}
	often := func(likely, other func() impl.Code) impl.Code {
		if r.Intn(5) > 0 {
			return likely()
		}
		return other()
	}
	switch kind := r.Intn(14); {
	case depth <= 1 || kind == 0:
		leaves := []impl.Code{codeZero(), codeUnit()}
		for n := range binders {
			leaves = append(leaves, codeVar(n), codeVar(n))
		}
		return leaves[r.Intn(len(leaves))]
	case kind <= 4:
		return mkCode(impl.CodeCall, often(function, sub), sub())
	case kind <= 5:
		return function()
	case kind <= 7:
		return mkCode(impl.CodeSucc, sub())
	case kind <= 9:
		others := func() impl.Code { return mkCode(impl.CodeFun, mkCode(impl.CodeFun, randomCode(r, depth-2, binders+2))) }
		number := func() impl.Code { return codeSuccs(r.Intn(4), codeZero()) }
		return mkCode(impl.CodeRec, sub(), often(others, sub), often(number, sub))
	case kind <= 11:
		return mkCode(impl.CodePair, sub(), sub())
	}
	pair := func() impl.Code { return mkCode(impl.CodePair, sub(), sub()) }
	return mkCode(impl.CodeFst+r.Intn(2), often(pair, sub))
}

func TestRunsOfRandomPrograms(t *testing.T) {
	r := rand.New(rand.NewSource(120))
	ends := make([]int, 4)
	long := 0
	for range 30000 {
		c := randomCode(r, 2+r.Intn(7), 0)
		if !withinLimits(c) {
			continue
		}
		x := checkRuns(t, c, 0, 1, 2, r.Intn(201))
		_, code := x.run(impl.MaxFuel)
		ends[code]++
		if code == impl.RunValue && x.steps() >= 10 {
			long++
		}
		checkCode(t, codeText(c), c, true)
	}
	if ends[impl.RunValue] < 5000 || ends[impl.RunStuck] < 5000 || ends[impl.RunFuel]+ends[impl.RunLarge] < 10 || long < 200 {
		t.Errorf("the codes are %v, and %d values need many steps", ends, long)
	}
}

func TestProgramsShareNoMemory(t *testing.T) {
	for _, text := range []string{"([N]+#0 ++0)", "|(N*N),[N]|N,#0,0|,+0|", "<[N]N,+0,[N][N]+#0,++0>", "@<[N]N,!0,|N,0,0|>", "([N]|N,#0,|N,#0,#0|| |N,++0,[N]#0|)", "^||N,+0,0|,|N,+0,0|,0|"} {
		x := parse(t, text)
		first, _ := impl.ExtractTerm(x)
		second, _ := impl.ExtractTerm(x)
		want := copyCode(first)
		overwriteCode(first)
		if !equalCode(second, want) || textOf(x) != text {
			t.Errorf("the programs of %s share memory", text)
		}
		third, code := impl.RunCode(second, impl.MaxFuel)
		fourth, _ := impl.RunCode(second, impl.MaxFuel)
		if code != impl.RunValue && code != impl.RunStuck {
			t.Errorf("RunCode of %s has the code %d", text, code)
		}
		value := copyCode(third)
		checkSeparateCodes(t, third)
		overwriteCode(third)
		if !equalCode(second, want) || !equalCode(fourth, value) {
			t.Errorf("the values of %s share memory", text)
		}
		overwrite(x)
		if !equalCode(second, want) {
			t.Errorf("the program of %s shares memory with it", text)
		}
		overwriteCode(second)
		if !equalCode(fourth, value) {
			t.Errorf("the value of %s shares memory with the program", text)
		}
	}
}

// Operands may share memory with each other, and there may be memory beyond
// their length.
func TestProgramsWithSharedOperands(t *testing.T) {
	leaf := program(t, "(.|#0,#0| +.#0)")
	kids := make([]impl.Code, 2, 5)
	kids[0], kids[1] = leaf, leaf
	kids[:3][2] = codeVar(7)
	for _, c := range []impl.Code{codeDoubled(3, leaf), {Kind: impl.CodePair, Kids: kids}, mkCode(impl.CodeFst, impl.Code{Kind: impl.CodePair, Kids: kids}), {Kind: impl.CodeCall, Kids: kids}, codeDoubled(5, codeSuccs(2, codeZero()))} {
		x := checkRuns(t, c)
		if got, code := impl.RunCode(c, impl.MaxFuel); code == impl.RunValue {
			checkSeparateCodes(t, got)
			if !equalCode(got, x.programs[x.steps()]) {
				t.Errorf("RunCode(%s) = %s", codeText(c), codeText(got))
			}
		}
	}
	if !equalCode(kids[:3][2], codeVar(7)) || !equalCode(kids[0], program(t, "(.|#0,#0| +.#0)")) {
		t.Error("an argument is changed")
	}
	numbers := make([]impl.Term, 2, 4)
	numbers[0] = succs(2, zero())
	numbers[1] = numbers[0]
	checkExtracted(t, impl.Term{Kind: impl.TermApp, Kids: numbers}, "(++0 ++0)")
	checkExtracted(t, doubled(5, succs(2, variable(3))), wantExtracted(doubled(5, succs(2, variable(3)))))
}

// checkNumber wants the program of a closed number to have the value of its
// normal term, as far as both are found within the limits.
func (c *tally) checkNumber(t *testing.T, x impl.Term) {
	t.Helper()
	normal, code := impl.Normalize(x, impl.MaxFuel)
	made, ok := impl.ExtractTerm(x)
	if !ok || impl.FormatCode(made) != wantExtracted(x) {
		t.Errorf("ExtractTerm(%s) = %v, %v", textOf(x), made, ok)
		return
	}
	value, run := impl.RunCode(made, impl.MaxFuel)
	if run != impl.RunValue && run != impl.RunFuel && run != impl.RunLarge {
		t.Errorf("RunCode of %s has the code %d", textOf(x), run)
	}
	if code != impl.NormOk || run != impl.RunValue {
		c.open++
		return
	}
	c.decided++
	if impl.FormatCode(value) != textOf(normal) || strings.TrimLeft(textOf(normal), "+") != "0" {
		t.Errorf("the program of %s has the value %s, but its normal term is %s", textOf(x), impl.FormatCode(value), textOf(normal))
	}
	number, has := impl.NumeralValue(normal)
	if n, ok := impl.CodeNumber(value); n != number || ok != has {
		t.Errorf("the program of %s has the number %d, %v, but its normal term has %d, %v", textOf(x), n, ok, number, has)
	}
}

type numberCase struct {
	text    string
	program string
	value   int
}

// provedZeroPlus is a proof, by recursion, that zero plus a number is the
// number.
func provedZeroPlus(number string) string {
	sum := func(x string) string { return "(([N][N]<[N]N,#1,[N][N]+#0,#0> 0) " + x + ")" }
	return "<[N]{N," + sum("#0") + ",#0},!0,[N][{N," + sum("#0") + ",#0}]@<[N]{N,+" + sum("#2") + ",+#0},#0,!+" + sum("#1") + ">," + number + ">"
}

func numberCases() []numberCase {
	return []numberCase{
		{"0", "0", 0}, {"+++++0", "+++++0", 5}, {"([N]+#0 ++0)", "(.+#0 ++0)", 3}, {"<[N]N,+0,[N][N]++#0,++0>", "<+0,..++#0,++0>", 5}, {"<[N]N,0,[N][N]#1,+++0>", "<0,..#1,+++0>", 2},
		{"(([N][N]<[N]N,#1,[N][N]+#0,#0> ++0) +++0)", "((..<#1,..+#0,#0> ++0) +++0)", 5}, {"(<[N](N>N),[N]#0,[N][(N>N)][N]+(#1 #0),++0> +0)", "(<.#0,...+(#1 #0),++0> +0)", 3},
		{"^|(N*N),+0,0|", "^|+0,0|", 1}, {"_|(N*N),+0,++0|", "_|+0,++0|", 2}, {"^|(N*{N,#0,#0}),+0,!+0|", "^|+0,?|", 1}, {"_|(*0*#0),N,++0|", "_|?,++0|", 2}, {"+^_|(N*(N*N)),0,|(N*N),+0,0||", "+^_|0,|+0,0||", 2},
		{"^<[N](N*N),|(N*N),0,+0|,[N][(N*N)]|(N*N),_#0,+_#0|,++0>", "^<|0,+0|,..|_#0,+_#0|,++0>", 2},
		{"(([*0][#0]#0 N) +0)", "((..#0 ?) +0)", 1}, {"((([*0][(#0>#1)][#1](#1 (#1 #0)) N) [N]+#0) 0)", "(((...(#1 (#1 #0)) ?) .+#0) 0)", 2}, {"([(*0>*0)]0 [*0](#0>#1))", "(.0 .?)", 0}, {"([{N,0,0}]+0 !0)", "(.+0 ?)", 1},
		{"(([(N>N)][N](#1 (#1 #0)) [N]++#0) +0)", "((..(#1 (#1 #0)) .++#0) +0)", 5}, {"([((N>N)>N)](#0 [N]+#0) [(N>N)](#0 +0))", "(.(#0 .+#0) .(#0 +0))", 2}, {"([(N>(N>N))]((#0 +0) 0) [N][N]#1)", "(.((#0 +0) 0) ..#1)", 1},
		{"@<[N]N,!0,+0>", "+0", 1}, {"@<[*0]#0,!N,++0>", "++0", 2}, {"(@<[*0](#0>N),!N,[N]+#0> +0)", "(.+#0 +0)", 2}, {"+@<[N]N,!0,([N]+#0 0)>", "+(.+#0 0)", 2}, {"^@<[N](N*N),!0,|(N*N),++0,0|>", "^|++0,0|", 2},
		{"@<[N]N," + provedZeroPlus("++0") + ",+++0>", "+++0", 3}, {"(@<[N](N>N)," + provedZeroPlus("+0") + ",[N]+#0> @<[N]N,!0,0>)", "(.+#0 0)", 1}, {"<[N]N,@<[N]N,!0,0>,[N][N]@<[N]N,!#1,++#0>,@<[N]N,!0,++0>>", "<0,..++#0,++0>", 4},
		{"([<[N]*1,*0,[N][*1]*0,+0>]+0 N)", "(.+0 ?)", 1}, {"([<[N]*0,N,[N][*0](N>#1),0>]#0 +0)", "(.#0 +0)", 1}, {"([<[N]*0,N,[N][*0](N>#1),+0>](#0 0) [N]+#0)", "(.(#0 0) .+#0)", 1},
		{"(<[N]<[N]*0,N,[N][*0](N>#1),#0>,0,[N][<[N]*0,N,[N][*0](N>#1),#0>][N]#1,+0> +0)", "(<0,...#1,+0> +0)", 0},
	}
}

func TestNumbersAndTheirPrograms(t *testing.T) {
	for _, c := range numberCases() {
		x := parse(t, c.text)
		if code := impl.CheckType(nil, x, nat()); code != impl.TypeOk {
			t.Errorf("CheckType of %s and N = %d", c.text, code)
		}
		made, _ := impl.ExtractTerm(x)
		if got := impl.FormatCode(made); got != c.program {
			t.Errorf("ExtractTerm(%s) = %s, want %s", c.text, got, c.program)
		}
		value, code := impl.RunCode(made, impl.MaxFuel)
		if n, ok := impl.CodeNumber(value); code != impl.RunValue || !ok || n != c.value {
			t.Errorf("the program of %s has the value %s, %d", c.text, impl.FormatCode(value), code)
		}
		var seen tally
		seen.checkNumber(t, x)
		seen.checkDecided(t, 1)
	}
}

func TestProgramsOfFunctionsOfNumbers(t *testing.T) {
	var seen tally
	for _, f := range computable() {
		for _, args := range argumentsOf(f.arity) {
			if slices.Max(args) > 6 {
				continue
			}
			x := parse(t, f.appliedText(args))
			seen.checkNumber(t, x)
			made, _ := impl.ExtractTerm(x)
			value, code := impl.RunCode(made, impl.MaxFuel)
			if n, ok := impl.CodeNumber(value); code == impl.RunValue && (n != f.value(args) && f.value(args) <= 20 || ok != (f.value(args) <= 20)) {
				t.Errorf("the program of %s has the value %s", f.called(args), impl.FormatCode(value))
			}
		}
	}
	seen.checkDecided(t, 130)
}

func TestProgramsOfRandomNumbers(t *testing.T) {
	var seen tally
	kinds := map[int]int{}
	m := maker{rand.New(rand.NewSource(1212))}
	for range 6000 {
		x, ok := m.element(nil, nat(), 3+m.r.Intn(4))
		if !ok || impl.CheckType(nil, x, nat()) != impl.TypeOk {
			continue
		}
		seen.checkNumber(t, x)
		for _, place := range allPlaces(x) {
			kinds[partAt(x, place).Kind]++
		}
	}
	seen.checkDecided(t, 5000)
	for kind := impl.TermVar; kind <= impl.TermSnd; kind++ {
		if kinds[kind] < 20 {
			t.Errorf("only %d terms of the kind %d are in the numbers", kinds[kind], kind)
		}
	}
}

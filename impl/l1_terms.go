package impl

import (
	"strconv"
	"strings"
)

// Term is a node of a term.
type Term struct {
	Kind int
	N    int
	Kids []Term
}

// Kinds of terms, and limits.
const (
	TermVar   = 1
	TermSort  = 2
	TermPi    = 3
	TermLam   = 4
	TermApp   = 5
	TermNat   = 6
	TermZero  = 7
	TermSucc  = 8
	TermElim  = 9
	TermId    = 10
	TermRefl  = 11
	TermMove  = 12
	TermSigma = 13
	TermPair  = 14
	TermFst   = 15
	TermSnd   = 16
	MaxSort   = 3
	MaxIndex  = 20
	MaxNodes  = 400
	MaxDepth  = 30
	MaxNumber = 20
)

// TermValid reports whether t is valid.
func TermValid(t Term) bool {
	_, ok := measureTerm(t)
	return ok
}

// TermSame reports whether a and b are equal.
func TermSame(a Term, b Term) bool {
	if TermValid(a) {
		return sameTree(a, b)
	}
	return sameGraph(a, b)
}

// FormatTerm returns the text of t.
func FormatTerm(t Term) string {
	if !TermValid(t) {
		return ""
	}
	f := newTermFormatter()
	f.format(t)
	return f.out.String()
}

// ParseTerm parses the text of a term.
func ParseTerm(text string) (Term, bool) {
	return newTermCursor(text).whole()
}

// CountNodes returns the number of nodes of t.
func CountNodes(t Term) int {
	size, _ := measureTerm(t)
	return size.nodes
}

// TermDepth returns the depth of t.
func TermDepth(t Term) int {
	size, _ := measureTerm(t)
	return size.depth
}

// Numeral returns the term for a number.
func Numeral(n int) (Term, bool) {
	if !hasNumeral(n) {
		return Term{}, false
	}
	t := Term{Kind: TermZero}
	for range n {
		t = Term{Kind: TermSucc, Kids: []Term{t}}
	}
	return t, true
}

// NumeralValue returns the number for which a term stands.
func NumeralValue(t Term) (int, bool) {
	for n := 0; n <= MaxNumber && rootValid(t); n++ {
		switch t.Kind {
		case TermZero:
			return n, true
		case TermSucc:
			t = t.Kids[0]
		default:
			return 0, false
		}
	}
	return 0, false
}

func hasNumeral(n int) bool {
	return n >= 0 && n <= MaxNumber
}

// termKind is what the kinds of terms have in common. Its methods are not
// exported, so no kind can exist for which a termVisitor has no method.
type termKind interface {
	operands() int
	maxN() int
	accept(v termVisitor, t Term)
	typingRule
}

// termVisitor treats one node of a valid term.
type termVisitor interface {
	visitVar(n int)
	visitSort(n int)
	visitPi(a, b Term)
	visitLam(a, body Term)
	visitApp(f, a Term)
	visitNat()
	visitZero()
	visitSucc(a Term)
	visitElim(p, z, s, a Term)
	visitId(t, a, b Term)
	visitRefl(a Term)
	visitMove(p, e, a Term)
	visitSigma(a, b Term)
	visitPair(t, a, b Term)
	visitFst(a Term)
	visitSnd(a Term)
}

// The kinds are built from their numbers of operands; only variables and
// sorts replace the N of 0 that all others have.
type (
	zeroN         struct{}
	noOperands    struct{ zeroN }
	oneOperand    struct{ zeroN }
	twoOperands   struct{ zeroN }
	threeOperands struct{ zeroN }
	fourOperands  struct{ zeroN }

	varKind   struct{ noOperands }
	sortKind  struct{ noOperands }
	piKind    struct{ twoOperands }
	lamKind   struct{ twoOperands }
	appKind   struct{ twoOperands }
	natKind   struct{ noOperands }
	zeroKind  struct{ noOperands }
	succKind  struct{ oneOperand }
	elimKind  struct{ fourOperands }
	idKind    struct{ threeOperands }
	reflKind  struct{ oneOperand }
	moveKind  struct{ threeOperands }
	sigmaKind struct{ twoOperands }
	pairKind  struct{ threeOperands }
	fstKind   struct{ oneOperand }
	sndKind   struct{ oneOperand }
)

func (zeroN) maxN() int    { return 0 }
func (varKind) maxN() int  { return MaxIndex }
func (sortKind) maxN() int { return MaxSort }

func (noOperands) operands() int    { return 0 }
func (oneOperand) operands() int    { return 1 }
func (twoOperands) operands() int   { return 2 }
func (threeOperands) operands() int { return 3 }
func (fourOperands) operands() int  { return 4 }

func (varKind) accept(v termVisitor, t Term)  { v.visitVar(t.N) }
func (sortKind) accept(v termVisitor, t Term) { v.visitSort(t.N) }
func (piKind) accept(v termVisitor, t Term)   { v.visitPi(t.Kids[0], t.Kids[1]) }
func (lamKind) accept(v termVisitor, t Term)  { v.visitLam(t.Kids[0], t.Kids[1]) }
func (appKind) accept(v termVisitor, t Term)  { v.visitApp(t.Kids[0], t.Kids[1]) }
func (natKind) accept(v termVisitor, t Term)  { v.visitNat() }
func (zeroKind) accept(v termVisitor, t Term) { v.visitZero() }
func (succKind) accept(v termVisitor, t Term) { v.visitSucc(t.Kids[0]) }
func (elimKind) accept(v termVisitor, t Term) {
	v.visitElim(t.Kids[0], t.Kids[1], t.Kids[2], t.Kids[3])
}
func (idKind) accept(v termVisitor, t Term)    { v.visitId(t.Kids[0], t.Kids[1], t.Kids[2]) }
func (reflKind) accept(v termVisitor, t Term)  { v.visitRefl(t.Kids[0]) }
func (moveKind) accept(v termVisitor, t Term)  { v.visitMove(t.Kids[0], t.Kids[1], t.Kids[2]) }
func (sigmaKind) accept(v termVisitor, t Term) { v.visitSigma(t.Kids[0], t.Kids[1]) }
func (pairKind) accept(v termVisitor, t Term)  { v.visitPair(t.Kids[0], t.Kids[1], t.Kids[2]) }
func (fstKind) accept(v termVisitor, t Term)   { v.visitFst(t.Kids[0]) }
func (sndKind) accept(v termVisitor, t Term)   { v.visitSnd(t.Kids[0]) }

func kindOf(t Term) (termKind, bool) {
	switch t.Kind {
	case TermVar:
		return varKind{}, true
	case TermSort:
		return sortKind{}, true
	case TermPi:
		return piKind{}, true
	case TermLam:
		return lamKind{}, true
	case TermApp:
		return appKind{}, true
	case TermNat:
		return natKind{}, true
	case TermZero:
		return zeroKind{}, true
	case TermSucc:
		return succKind{}, true
	case TermElim:
		return elimKind{}, true
	case TermId:
		return idKind{}, true
	case TermRefl:
		return reflKind{}, true
	case TermMove:
		return moveKind{}, true
	case TermSigma:
		return sigmaKind{}, true
	case TermPair:
		return pairKind{}, true
	case TermFst:
		return fstKind{}, true
	case TermSnd:
		return sndKind{}, true
	}
	return nil, false
}

// rootValid says nothing about the operands of t but their number.
func rootValid(t Term) bool {
	kind, ok := kindOf(t)
	return ok && t.N >= 0 && t.N <= kind.maxN() && len(t.Kids) == kind.operands()
}

type termSize struct {
	nodes int
	depth int
}

// measureTerm stops at the first node past a limit: an invalid term may be
// very large, and may even contain itself.
func measureTerm(t Term) (termSize, bool) {
	var size termSize
	if !size.add(t, 1) {
		return termSize{}, false
	}
	return size, true
}

func (s *termSize) add(t Term, depth int) bool {
	if s.nodes == MaxNodes || depth > MaxDepth || !rootValid(t) {
		return false
	}
	s.nodes++
	s.depth = max(s.depth, depth)
	for _, kid := range t.Kids {
		if !s.add(kid, depth+1) {
			return false
		}
	}
	return true
}

// cloneTerm returns t in new memory. It needs t to be small: a valid term, or
// the zero value.
func cloneTerm(t Term) Term {
	c := Term{Kind: t.Kind, N: t.N}
	if len(t.Kids) > 0 {
		c.Kids = make([]Term, len(t.Kids))
		for i, kid := range t.Kids {
			c.Kids[i] = cloneTerm(kid)
		}
	}
	return c
}

// nodeRoot is what a node is without its operands, but with their number.
type nodeRoot struct {
	kind     int
	n        int
	operands int
}

func (t Term) root() nodeRoot { return nodeRoot{t.Kind, t.N, len(t.Kids)} }
func (t Term) kids() []Term   { return t.Kids }

// sameTree needs a to be valid, because it goes no further than a does.
func sameTree(a, b Term) bool {
	if a.root() != b.root() {
		return false
	}
	for i := range a.Kids {
		if !sameTree(a.Kids[i], b.Kids[i]) {
			return false
		}
	}
	return true
}

// graphNode is what terms and programs have in common.
type graphNode[T any] interface {
	root() nodeRoot
	kids() []T
}

type nodePair[T any] struct {
	a T
	b T
}

// sameGraph has a stack of its own and compares no two lists of operands
// twice, so it also returns for terms that are very deep, that use the same
// memory many times, or that contain themselves.
func sameGraph[T graphNode[T]](a, b T) bool {
	joined := listClasses[T]{}
	work := []nodePair[T]{{a, b}}
	for len(work) > 0 {
		p := work[len(work)-1]
		work = work[:len(work)-1]
		if p.a.root() != p.b.root() {
			return false
		}
		x, y := p.a.kids(), p.b.kids()
		if len(x) == 0 || !joined.join(x, y) {
			continue
		}
		for i := range x {
			work = append(work, nodePair[T]{x[i], y[i]})
		}
	}
	return true
}

// operandList stands for the memory of a list of operands.
type operandList[T any] struct {
	first  *T
	length int
}

// listClasses has the lists that are equal if no difference is found: each
// one leads to another one of its class or, without an entry, is its top.
type listClasses[T any] map[operandList[T]]operandList[T]

func (c listClasses[T]) top(list operandList[T]) operandList[T] {
	for {
		up, ok := c[list]
		if !ok {
			return list
		}
		if further, ok := c[up]; ok {
			c[list] = further // shorter ways keep later searches fast
		}
		list = up
	}
}

// join reports whether the lists, which are not empty, were not yet joined.
func (c listClasses[T]) join(a, b []T) bool {
	x := c.top(operandList[T]{&a[0], len(a)})
	y := c.top(operandList[T]{&b[0], len(b)})
	if x == y {
		return false
	}
	c[x] = y
	return true
}

// termFormatter writes variables as numbers. A formatter of another form of
// texts embeds it, and replaces the methods for what differs.
type termFormatter struct {
	out  strings.Builder
	form termVisitor // the formatter itself, or the one that embeds it
}

func newTermFormatter() *termFormatter {
	f := &termFormatter{}
	f.form = f
	return f
}

func (f *termFormatter) format(t Term) {
	if kind, ok := kindOf(t); ok {
		kind.accept(f.form, t)
	}
}

func (f *termFormatter) write(open, between, end string, operands ...Term) {
	f.out.WriteString(open)
	for i, t := range operands {
		if i > 0 {
			f.out.WriteString(between)
		}
		f.format(t)
	}
	f.out.WriteString(end)
}

func (f *termFormatter) visitVar(n int)            { f.out.WriteString("#" + strconv.Itoa(n)) }
func (f *termFormatter) visitSort(n int)           { f.out.WriteString("*" + strconv.Itoa(n)) }
func (f *termFormatter) visitPi(a, b Term)         { f.write("(", ">", ")", a, b) }
func (f *termFormatter) visitLam(a, body Term)     { f.write("[", "]", "", a, body) }
func (f *termFormatter) visitApp(g, a Term)        { f.write("(", " ", ")", g, a) }
func (f *termFormatter) visitNat()                 { f.out.WriteString("N") }
func (f *termFormatter) visitZero()                { f.out.WriteString("0") }
func (f *termFormatter) visitSucc(a Term)          { f.write("+", "", "", a) }
func (f *termFormatter) visitElim(p, z, s, a Term) { f.write("<", ",", ">", p, z, s, a) }
func (f *termFormatter) visitId(t, a, b Term)      { f.write("{", ",", "}", t, a, b) }
func (f *termFormatter) visitRefl(a Term)          { f.write("!", "", "", a) }
func (f *termFormatter) visitMove(p, e, a Term)    { f.write("@<", ",", ">", p, e, a) }
func (f *termFormatter) visitSigma(a, b Term)      { f.write("(", "*", ")", a, b) }
func (f *termFormatter) visitPair(t, a, b Term)    { f.write("|", ",", "|", t, a, b) }
func (f *termFormatter) visitFst(a Term)           { f.write("^", "", "", a) }
func (f *termFormatter) visitSnd(a Term)           { f.write("_", "", "", a) }

// termReader reads one term from the text of a termCursor. No node of it may
// be deeper than MaxDepth, where depth is that of its root.
type termReader interface {
	term(depth int) (Term, bool)
}

// termCursor reads a text from the left. It counts the nodes as it goes,
// because a text may be much longer than that of any valid term. A cursor for
// another form of texts embeds it, and replaces the method term.
type termCursor struct {
	text  string
	at    int
	nodes int
	form  termReader // the cursor itself, or the one that embeds it
}

func newTermCursor(text string) *termCursor {
	c := &termCursor{text: text}
	c.form = c
	return c
}

// whole reads a term that has all of the text.
func (c *termCursor) whole() (Term, bool) {
	t, ok := c.form.term(1)
	if !ok || c.at != len(c.text) {
		return Term{}, false
	}
	return t, true
}

// take passes want, if the text continues with it.
func (c *termCursor) take(want string) bool {
	if !strings.HasPrefix(c.text[c.at:], want) {
		return false
	}
	c.at += len(want)
	return true
}

// next passes one byte. At the end of the text it returns 0, with which no
// part of a term begins.
func (c *termCursor) next() byte {
	if c.at == len(c.text) {
		return 0
	}
	c.at++
	return c.text[c.at-1]
}

// enter reports whether there may be a further node, and counts it.
func (c *termCursor) enter(depth int) bool {
	if c.nodes == MaxNodes || depth > MaxDepth {
		return false
	}
	c.nodes++
	return true
}

func (c *termCursor) term(depth int) (Term, bool) {
	if !c.enter(depth) {
		return Term{}, false
	}
	switch first := c.next(); first {
	case '#':
		return c.numbered(TermVar, MaxIndex)
	case '(':
		return c.round(depth)
	case '[':
		return c.node(TermLam, depth, "]", "")
	default:
		return c.plain(first, depth)
	}
}

// plain reads what comes behind the first byte of a term that is neither a
// variable nor begins like a binder.
func (c *termCursor) plain(first byte, depth int) (Term, bool) {
	switch first {
	case '*':
		return c.numbered(TermSort, MaxSort)
	case 'N':
		return Term{Kind: TermNat}, true
	case '0':
		return Term{Kind: TermZero}, true
	case '+':
		return c.node(TermSucc, depth, "")
	case '<':
		return c.node(TermElim, depth, ",", ",", ",", ">")
	case '{':
		return c.node(TermId, depth, ",", ",", "}")
	case '!':
		return c.node(TermRefl, depth, "")
	case '@':
		if c.take("<") {
			return c.node(TermMove, depth, ",", ",", ">")
		}
	case '|':
		return c.node(TermPair, depth, ",", ",", "|")
	case '^':
		return c.node(TermFst, depth, "")
	case '_':
		return c.node(TermSnd, depth, "")
	}
	return Term{}, false
}

// node reads as many operands as there are ends, each followed by its end.
func (c *termCursor) node(kind int, depth int, ends ...string) (Term, bool) {
	kids := make([]Term, len(ends))
	for i, end := range ends {
		kid, ok := c.form.term(depth + 1)
		if !ok || !c.take(end) {
			return Term{}, false
		}
		kids[i] = kid
	}
	return Term{Kind: kind, Kids: kids}, true
}

// round reads the operands of the three kinds that begin alike, and finds
// out which one it is from the byte between them.
func (c *termCursor) round(depth int) (Term, bool) {
	a, ok := c.term(depth + 1)
	if !ok {
		return Term{}, false
	}
	kind, ok := roundKind(c.next())
	if !ok {
		return Term{}, false
	}
	b, ok := c.term(depth + 1)
	if !ok || !c.take(")") {
		return Term{}, false
	}
	return Term{Kind: kind, Kids: []Term{a, b}}, true
}

func roundKind(between byte) (int, bool) {
	switch between {
	case '>':
		return TermPi, true
	case ' ':
		return TermApp, true
	case '*':
		return TermSigma, true
	}
	return 0, false
}

func (c *termCursor) numbered(kind int, limit int) (Term, bool) {
	n, ok := c.number(limit)
	if !ok {
		return Term{}, false
	}
	return Term{Kind: kind, N: n}, true
}

// number reads no digit after the limit is passed, so that n cannot overflow.
func (c *termCursor) number(limit int) (int, bool) {
	start := c.at
	n := 0
	for c.at < len(c.text) && isDigit(c.text[c.at]) && n <= limit {
		n = 10*n + int(c.text[c.at]-'0')
		c.at++
	}
	length := c.at - start
	if length == 0 || n > limit || length > 1 && c.text[start] == '0' {
		return 0, false
	}
	return n, true
}

func isDigit(b byte) bool {
	return b >= '0' && b <= '9'
}

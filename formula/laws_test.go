package formula_test

import (
	"fmt"
	"strings"
	"testing"

	"quantale/api"
	"quantale/formula"
	"quantale/logic"
)

// source makes nodes and texts by a fixed sequence of numbers.
type source struct{ state uint64 }

func (r *source) below(n int) int {
	r.state = r.state*6364136223846793005 + 1442695040888963407
	return int(r.state>>33) % n
}

func printed(t *testing.T, n api.Node) string {
	t.Helper()
	text, e := formula.Print(n)
	if e != api.OK {
		t.Errorf("P2.2: Print(%v) is %d", n, e)
	}
	return text
}

// node returns a node that has a text, with Nums from low on.
func (r *source) node(levels int, low int64) api.Node {
	table := kidsOf()
	for {
		o := r.below(api.Subset + 1)
		kids, known := table[o]
		if o == api.App {
			known, kids = true, r.below(4)
		}
		if !known || (levels == 1) != (kids == 0) && o != api.App || levels == 1 && kids > 0 {
			continue
		}
		n := api.Node{Op: o}
		if o == api.Var || o == api.App {
			n.Name, n.Sort = []string{"x", "y", "z.0", "Cons", "len"}[r.below(5)], r.below(6)
		}
		if o == api.Int {
			n.Num = int64(r.below(9) - 4)
		}
		if o == api.Scale {
			n.Num = low + int64(r.below(5))
		}
		for range kids {
			n.Kids = append(n.Kids, r.node(max(1, levels-1-r.below(2)), low))
		}
		return n
	}
}

func TestPrintLaws(t *testing.T) {
	r := &source{state: 1}
	for range 5000 {
		n := r.node(1+r.below(6), 0)
		text := printed(t, n)
		got, at, e := formula.Parse(text)
		if e != api.OK || at != 0 || !logic.Equal(got, unsorted(n)) {
			t.Fatalf("P2.4: %q is read as %v, %d, %d", text, got, at, e)
		}
		if again := printed(t, got); again != text {
			t.Fatalf("P2.4: %q is printed again as %q", text, again)
		}
	}
}

// What a negative Scale prints reads back as the Neg of a Scale.
func TestNegativeScaleLaws(t *testing.T) {
	r := &source{state: 2}
	for range 5000 {
		n := r.node(1+r.below(6), -3)
		text := printed(t, n)
		got, _, e := formula.Parse(text)
		if e != api.OK || !logic.Equal(got, positive(unsorted(n))) {
			t.Fatalf("P2.2: %q is read as %v, %d", text, got, e)
		}
	}
}

func positive(n api.Node) api.Node {
	kids := n.Kids
	n.Kids = nil
	for _, k := range kids {
		n.Kids = append(n.Kids, positive(k))
	}
	if n.Op == api.Scale && n.Num < 0 {
		n.Num = -n.Num
		return neg(n)
	}
	return n
}

// pieces are the tokens that texts are made of.
func pieces() []string {
	return []string{"x", "y", "f", "(", ")", "(", ")", ",", "1", "23", "-", "!", "*", "+", "&&", "||", "=>", "<=>", "=", "!=", "<", "<=", ">", ">=",
		"in", "sub", "true", "empty", "sing", "cup", "ite", "vlen", "sel"}
}

// tokens returns pieces, most of them in an order that is read.
func (r *source) tokens() []string {
	var l []string
	all := pieces()
	for range r.below(14) {
		best := ""
		for range 1 + r.below(8) {
			best = all[r.below(len(all))]
			if _, at, e := formula.Parse(strings.Join(append(l, best), " ")); e == api.OK || at == len(strings.Join(append(l, best), " ")) {
				break
			}
		}
		l = append(l, best)
	}
	return l
}

func TestTextLaws(t *testing.T) {
	r := &source{state: 3}
	good := 0
	for range 20000 {
		text := strings.Join(r.tokens(), " ")
		n, at, e := formula.Parse(text)
		switch {
		case e == api.OK:
			good++
			again := printed(t, n)
			if m, _, e := formula.Parse(again); e != api.OK || !logic.Equal(m, n) {
				t.Fatalf("P2.4: %q is read as %v, its text %q as %v, %d", text, n, again, m, e)
			}
		case e != api.ErrSyntax || at > len(text) || !logic.Equal(n, api.Node{}):
			t.Fatalf("P2.1: Parse(%q) is %v, %d, %d", text, n, at, e)
		}
	}
	if good < 500 {
		t.Errorf("only %d texts were read", good)
	}
}

// ends reports whether a text can be gone on with, by tokens of which some close what is open, so that it is read. It gives up when tries are used up.
func ends(text string, tries *int) bool {
	*tries--
	_, at, e := formula.Parse(text)
	if e != api.ErrSyntax || at != len(text) {
		return e == api.OK
	}
	for _, more := range []string{" x", " )", " ,", " ("} {
		if *tries > 0 && ends(text+more, tries) {
			return true
		}
	}
	return false
}

func canEnd(text string) bool {
	tries := 2000
	return ends(text, &tries)
}

// The offset of ErrSyntax is that of the first token that cannot follow: what is before it can be gone on with, with that token no more.
func TestFaultLaws(t *testing.T) {
	r := &source{state: 4}
	all := pieces()
	seen := 0
	for range 20000 {
		l := r.tokens()
		if len(l) > 6 {
			l = l[:6]
		}
		l = append(l, all[r.below(len(all))])
		text := strings.Join(l, " ")
		_, at, e := formula.Parse(text)
		if e != api.ErrSyntax || at == len(text) {
			continue
		}
		seen++
		first := strings.Fields(text[at:])[0]
		if !canEnd(strings.TrimSpace(text[:at])) || canEnd(text[:at]+first) {
			t.Fatalf("P2.1: Parse(%q): the first token that cannot follow is not at %d", text, at)
		}
	}
	if seen < 1000 {
		t.Errorf("only %d faults", seen)
	}
}

// Blanks and comments between tokens change nothing but offsets.
func TestBlankLaws(t *testing.T) {
	r := &source{state: 5}
	blanks := []string{" ", "\t", "\n", "  ", " \n\t ", "#\n", "# x <= @ \xff\n", "\n#(\n #)\n"}
	for range 5000 {
		l := r.tokens()
		plain := strings.Join(l, " ")
		wide := blanks[r.below(len(blanks))]
		starts := map[int]int{}
		at := 0
		for _, s := range l {
			starts[at] = len(wide)
			at += len(s) + 1
			wide += s + blanks[r.below(len(blanks))]
		}
		starts[len(plain)] = len(wide)
		n, at, e := formula.Parse(plain)
		m, wideAt, wideE := formula.Parse(wide)
		if e == api.ErrSyntax {
			at = starts[at]
		}
		if e != wideE || at != wideAt || !logic.Equal(m, n) {
			t.Fatalf("P2.4: %q is read as %v, %d, %d, with other blanks as %v, %d, %d", plain, n, at, e, m, wideAt, wideE)
		}
	}
}

func TestAnyTexts(t *testing.T) {
	r := &source{state: 6}
	some := append(pieces(), "@", "#", "\n", "\xff", "\x00", "&", ".", "99999999999999", strings.Repeat("a", 30), strings.Repeat("(", 50), strings.Repeat("!", 50), "f(")
	for range 20000 {
		var text string
		for range r.below(30) {
			text += some[r.below(len(some))] + []string{"", " "}[r.below(2)]
		}
		first := fmt.Sprint(formula.Parse(text))
		if again := fmt.Sprint(formula.Parse(text)); again != first {
			t.Fatalf("P2 (R3): Parse(%q): two calls differ", text)
		}
		n, at, e := formula.Parse(text)
		bad := e != api.OK && !logic.Equal(n, api.Node{}) || e != api.ErrSyntax && at != 0 || at < 0 || at > len(text)
		if bad || e != api.OK && e != api.ErrSyntax && e != api.ErrLimit {
			t.Fatalf("P2.1: Parse(%q) is %v, %d, %d", text, n, at, e)
		}
		m, readE := formula.Read(text, declared(), signed())
		if e != api.OK && readE != e || readE != api.OK && !logic.Equal(m, api.Node{}) {
			t.Fatalf("P2.3: Read(%q) is %v, %d", text, m, readE)
		}
	}
}

// any returns a node that may be wrong in any way.
func (r *source) any(levels int) api.Node {
	n := r.node(1+r.below(levels), -2)
	for range r.below(3) {
		m := &n
		for len(m.Kids) > 0 && r.below(3) > 0 {
			m = &m.Kids[r.below(len(m.Kids))]
		}
		switch r.below(5) {
		case 0:
			m.Op = r.below(47) - 1
		case 1:
			m.Name = []string{"", "x", "true", "a b"}[r.below(4)]
		case 2:
			m.Num = int64(r.below(1000)-500) << r.below(50)
		case 3:
			m.Kids = append(m.Kids, v("x"))
		case 4:
			m.Kids = m.Kids[:len(m.Kids)/2]
		}
	}
	return n
}

// Print refuses what it could not print so that it reads back, and changes nothing.
func TestAnyNodes(t *testing.T) {
	r := &source{state: 7}
	good := 0
	for range 20000 {
		n := r.any(4)
		before := fmt.Sprint(n)
		text, e := formula.Print(n)
		if again, e2 := formula.Print(n); again != text || e2 != e || fmt.Sprint(n) != before {
			t.Fatalf("P2 (R3): Print(%v): two calls differ", n)
		}
		if e != api.OK {
			if text != "" || e != api.ErrForm {
				t.Fatalf("P2.2: Print(%v) is %q, %d", n, text, e)
			}
			continue
		}
		good++
		if got, _, e := formula.Parse(text); e != api.OK || !logic.Equal(got, positive(unsorted(n))) {
			t.Fatalf("P2.4: %v is printed as %q", n, text)
		}
	}
	if good < 1000 {
		t.Errorf("only %d nodes were printed", good)
	}
}

// memory collects where nodes lie.
type memory map[*api.Node]bool

// add reports whether none of the nodes lies where one that is added already does.
func (m memory) add(l []api.Node) bool {
	ok := true
	for k := range l {
		ok = ok && !m[&l[k]]
		m[&l[k]] = true
		ok = m.add(l[k].Kids) && ok
	}
	return ok
}

func TestMemory(t *testing.T) {
	for _, text := range []string{"x != y", "x > x", "-3 * x", "f(f(x), f(x), ite(p, x, x))", "p => p <=> p && !p", "true = true"} {
		n, _, e := formula.Parse(text)
		m, e2 := formula.Read(text, append(declared(), api.Decl{Name: "f", Sort: 1}), []api.Sig{{Name: "f", Args: []int{1}, Sort: 1}})
		if e != api.OK || e2 != api.OK && e2 != api.ErrForm {
			t.Fatalf("P2.1: %q: %d %d", text, e, e2)
		}
		if where := (memory{}); !where.add([]api.Node{n}) || !where.add([]api.Node{m}) {
			t.Errorf("P2 (R3): the node of %q shares memory", text)
		}
	}
}

// The promises hold for large arguments, too.
func TestLargeArguments(t *testing.T) {
	const size = 1 << 16
	for _, o := range []int{api.Neg, api.And, api.Var, api.Scale, 99} {
		expectNoPrint(t, chain(o, size-1, v("x")), api.ErrLimit)
	}
	wide := api.Node{Op: api.App, Name: "f", Kids: make([]api.Node, size)}
	expectNoPrint(t, wide, api.ErrLimit)
	for _, piece := range []string{"(", "x", "1", "#", "\n", "!", "-", "f(", "x =>", "@"} {
		expectTooMuch(t, piece, strings.Repeat(piece, size))
	}
	for _, piece := range []string{"(", "!", "-", "f(", "x =>", "x <=> ", "3 * ", "sing("} {
		expectTooMuch(t, piece, strings.Repeat(piece, api.MaxText/len(piece)))
	}
}

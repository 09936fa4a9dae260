package formula

import (
	"strconv"
	"strings"

	"quantale/api"
	"quantale/logic"
)

// printable reports whether a node is of the form that api says for its operators, and has a text.
func printable(n api.Node) bool {
	if !fieldsFit(n) || !kidsFit(n) {
		return false
	}
	for _, k := range n.Kids {
		if !printable(k) {
			return false
		}
	}
	return true
}

// fieldsFit reports whether a node has the Name, Num and Sort that its operator uses, and no others: a text could not tell of them.
func fieldsFit(n api.Node) bool {
	if n.Op == api.Var || n.Op == api.App {
		return logic.Name(n.Name) && n.Num == 0 && 0 <= n.Sort && n.Sort <= api.SArr
	}
	if n.Name != "" || n.Sort != 0 {
		return false
	}
	if n.Op == api.Int || n.Op == api.Scale {
		return -api.MaxNum <= n.Num && n.Num <= api.MaxNum
	}
	return n.Num == 0
}

// kidsFit reports whether a node has as many kids as its operator takes. An operator without a text, as Hole is, takes no number of them.
func kidsFit(n api.Node) bool {
	count := len(n.Kids)
	switch n.Op {
	case api.Var, api.Int:
		return count == 0
	case api.App:
		return count <= api.MaxArgs
	case api.Not, api.Neg, api.Scale:
		return count == 1
	}
	if signOf(n.Op) != "" {
		return count == 2
	}
	w, ok := wordOf(n.Op)
	return ok && count == w.args
}

// write appends the text of a printable node.
func write(text *strings.Builder, n api.Node) {
	switch n.Op {
	case api.Var:
		text.WriteString(n.Name)
	case api.Int:
		writeInt(text, n.Num)
	case api.App:
		text.WriteString(n.Name)
		writeArgs(text, n.Kids)
	case api.Not:
		writePrefix(text, "!", n.Kids[0])
	case api.Neg:
		writeNeg(text, n.Kids[0])
	case api.Scale:
		writeScale(text, n.Num, n.Kids[0])
	default:
		writeKids(text, n)
	}
}

// writeKids appends the text of a node with a sign between two kids, or of a word.
func writeKids(text *strings.Builder, n api.Node) {
	if s := signOf(n.Op); s != "" {
		text.WriteByte('(')
		write(text, n.Kids[0])
		text.WriteString(" " + s + " ")
		write(text, n.Kids[1])
		text.WriteByte(')')
		return
	}
	w, _ := wordOf(n.Op)
	text.WriteString(w.text)
	if w.args > 0 {
		writeArgs(text, n.Kids)
	}
}

func writeArgs(text *strings.Builder, kids []api.Node) {
	text.WriteByte('(')
	for i, k := range kids {
		if i > 0 {
			text.WriteString(", ")
		}
		write(text, k)
	}
	text.WriteByte(')')
}

func writePrefix(text *strings.Builder, prefix string, kid api.Node) {
	text.WriteString("(" + prefix)
	write(text, kid)
	text.WriteByte(')')
}

func writeInt(text *strings.Builder, num int64) {
	digits := strconv.FormatInt(num, 10)
	if num < 0 {
		digits = "(" + digits + ")"
	}
	text.WriteString(digits)
}

// writeNeg keeps `-` and a number apart, as a negative one is anyway: together they would be read as one Int.
func writeNeg(text *strings.Builder, kid api.Node) {
	if kid.Op == api.Int {
		text.WriteString("(-(" + strconv.FormatInt(kid.Num, 10) + "))")
		return
	}
	writePrefix(text, "-", kid)
}

// writeScale writes a negative multiple as the Neg of a multiple: no text stands for it as it is.
func writeScale(text *strings.Builder, num int64, kid api.Node) {
	if num < 0 {
		text.WriteString("(-")
		writeScale(text, -num, kid)
		text.WriteByte(')')
		return
	}
	writePrefix(text, strconv.FormatInt(num, 10)+" * ", kid)
}

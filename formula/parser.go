package formula

import (
	"slices"
	"strconv"

	"quantale/api"
	"quantale/logic"
)

// maxOpen is the greatest number of parentheses, prefix operators, and signs `=>` and `<=>` that are open at once.
const maxOpen = 90

// maxDigits is the greatest number of digits of a number.
const maxDigits = 13

// fault is what the parser panics with when a text is wrong.
type fault struct {
	at int
	e  api.Errno
}

// refuse leaves the parser at a token that cannot follow.
func refuse(t token) {
	panic(fault{at: t.at, e: api.ErrSyntax})
}

type parser struct {
	scanner
	open int
}

// whole reads a node and the end of the text.
func (p *parser) whole() (n api.Node, at int, e api.Errno) {
	defer func() {
		r := recover()
		if r == nil {
			return
		}
		f, ok := r.(fault)
		if !ok {
			panic(r)
		}
		n, at, e = api.Node{}, f.at, f.e
	}()
	n = p.formula()
	if t := p.peek(); t.kind != endToken {
		refuse(t)
	}
	return n, 0, api.OK
}

func node(op int, kids ...api.Node) api.Node {
	return api.Node{Op: op, Kids: kids}
}

// inside reads what stands in one more level that is open.
func (p *parser) inside(read func() api.Node) api.Node {
	p.open++
	if p.open > maxOpen {
		panic(fault{e: api.ErrLimit})
	}
	n := read()
	p.open--
	return n
}

// joined reads operands that signs join from the left.
func (p *parser) joined(operand func() api.Node, signs ...string) api.Node {
	n := operand()
	for slices.Contains(signs, p.peek().text) {
		op := operator(p.take().text)
		right := operand()
		n = node(op, n, right)
	}
	return n
}

// bound reads an operand and, behind a sign, the rest that it is joined with from the right.
func (p *parser) bound(operand func() api.Node, sign string, rest func() api.Node) api.Node {
	left := operand()
	if !p.accept(sign) {
		return left
	}
	right := p.inside(rest)
	return node(operator(sign), left, right)
}

func (p *parser) formula() api.Node {
	return p.bound(p.imp, "<=>", p.formula)
}

func (p *parser) imp() api.Node {
	return p.bound(p.or, "=>", p.imp)
}

func (p *parser) or() api.Node {
	return p.joined(p.and, "||")
}

func (p *parser) and() api.Node {
	return p.joined(p.not, "&&")
}

func (p *parser) not() api.Node {
	if !p.accept("!") {
		return p.comparison()
	}
	kid := p.inside(p.not)
	return node(api.Not, kid)
}

func (p *parser) comparison() api.Node {
	left := p.sum()
	t := p.peek()
	switch t.text {
	case "=", "!=", "<", "<=", ">", ">=", "in", "sub":
		p.take()
		right := p.sum()
		return compared(t.text, left, right)
	}
	return left
}

// compared returns a comparison. Three signs have no operator of their own.
func compared(sign string, a, b api.Node) api.Node {
	switch sign {
	case "!=":
		return node(api.Not, node(api.Eq, a, b))
	case ">":
		return node(api.Lt, b, a)
	case ">=":
		return node(api.Le, b, a)
	}
	return node(operator(sign), a, b)
}

func (p *parser) sum() api.Node {
	return p.joined(p.unary, "+", "-")
}

func (p *parser) unary() api.Node {
	if p.accept("-") {
		return p.minus()
	}
	if p.peek().kind != numberToken {
		return p.primary()
	}
	num := p.number()
	if !p.accept("*") {
		return api.Node{Op: api.Int, Num: num}
	}
	kid := p.inside(p.unary)
	return api.Node{Op: api.Scale, Num: num, Kids: []api.Node{kid}}
}

// minus reads what `-` stands before. A number without `*` makes it part of that number, so that it opens nothing; before anything else it opens a level, and that counts ahead of all that is wrong behind it.
func (p *parser) minus() api.Node {
	if p.plainNumber() {
		return api.Node{Op: api.Int, Num: -p.number()}
	}
	kid := p.inside(p.unary)
	return node(api.Neg, kid)
}

// number takes a number and returns its value.
func (p *parser) number() int64 {
	t := p.take()
	if len(t.text) > maxDigits {
		refuse(t)
	}
	num, err := strconv.ParseInt(t.text, 10, 64)
	if err != nil || num > api.MaxNum {
		refuse(t)
	}
	return num
}

// primary reads what begins with a name, a word or a parenthesis.
func (p *parser) primary() api.Node {
	t := p.take()
	if t.text == "(" {
		return p.inside(p.closed)
	}
	if w, ok := wordAt(t.text); ok {
		return p.worded(w)
	}
	if !logic.Name(t.text) {
		refuse(t)
	}
	if !p.accept("(") {
		return api.Node{Op: api.Var, Name: t.text}
	}
	n := p.inside(p.application)
	n.Name = t.text
	return n
}

// closed reads what stands behind an opening parenthesis, and the closing one.
func (p *parser) closed() api.Node {
	n := p.formula()
	p.expect(")")
	return n
}

// worded reads what follows a word: as many arguments as it has.
func (p *parser) worded(w word) api.Node {
	if w.args == 0 {
		return node(w.op)
	}
	p.expect("(")
	return p.inside(func() api.Node {
		var kids []api.Node
		for i := range w.args {
			if i > 0 {
				p.expect(",")
			}
			kid := p.formula()
			kids = append(kids, kid)
		}
		p.expect(")")
		return node(w.op, kids...)
	})
}

// application reads arguments, of which there may be none, and the closing parenthesis.
func (p *parser) application() api.Node {
	n := node(api.App)
	if p.accept(")") {
		return n
	}
	for {
		if len(n.Kids) == api.MaxArgs {
			refuse(p.peek())
		}
		kid := p.formula()
		n.Kids = append(n.Kids, kid)
		if !p.accept(",") {
			p.expect(")")
			return n
		}
	}
}

package formula

import "strings"

// Kinds of tokens.
const (
	endToken = iota
	nameToken
	numberToken
	signToken
)

// token is a token at its offset. A byte that begins none is a sign without text, which can follow nowhere.
type token struct {
	kind int
	at   int
	text string
}

// signs are tried in this order: the longest that fits is taken.
var signs = [...]string{"<=>", "=>", "<=", ">=", "!=", "&&", "||", "(", ")", ",", "+", "-", "*", "=", "<", ">", "!"}

// scanner cuts a text into tokens, right or wrong. What is wrong with one is for the parser to refuse where it needs that token, so that it comes behind what the parser meets first.
type scanner struct {
	text  string
	at    int
	next  token
	ready bool
}

// peek returns the next token, which stays the next one.
func (s *scanner) peek() token {
	if !s.ready {
		s.next = s.scan()
		s.ready = true
	}
	return s.next
}

// take returns the next token and goes on behind it.
func (s *scanner) take() token {
	t := s.peek()
	s.ready = false
	return t
}

// accept takes the next token if it is the sign or word.
func (s *scanner) accept(text string) bool {
	if s.peek().text != text {
		return false
	}
	s.ready = false
	return true
}

// expect takes the next token, which must be the sign or word.
func (s *scanner) expect(text string) {
	if !s.accept(text) {
		refuse(s.peek())
	}
}

// plainNumber reports whether a number comes next that no `*` follows. A copy looks ahead; the scanner stays where it is.
func (s *scanner) plainNumber() bool {
	ahead := *s
	first := ahead.take()
	return first.kind == numberToken && ahead.peek().text != "*"
}

func (s *scanner) scan() token {
	s.skip()
	t := token{at: s.at}
	rest := s.text[s.at:]
	switch {
	case rest == "":
		return t
	case letter(rest[0]):
		t.kind, t.text = nameToken, rest[:span(rest, inName)]
	case digit(rest[0]):
		t.kind, t.text = numberToken, rest[:span(rest, digit)]
	default:
		t.kind, t.text = signToken, signAt(rest)
	}
	s.at += len(t.text)
	return t
}

// skip goes on behind blanks and comments.
func (s *scanner) skip() {
	for {
		rest := s.text[s.at:]
		blanks := span(rest, blank)
		s.at += blanks
		if !strings.HasPrefix(rest[blanks:], "#") {
			return
		}
		s.at += span(rest[blanks:], inLine)
	}
}

// signAt returns the sign that a text begins with, empty if it begins with none.
func signAt(text string) string {
	for _, s := range signs {
		if strings.HasPrefix(text, s) {
			return s
		}
	}
	return ""
}

// span returns the number of bytes at a text's start that are of a kind.
func span(text string, of func(byte) bool) int {
	n := 0
	for n < len(text) && of(text[n]) {
		n++
	}
	return n
}

func blank(c byte) bool {
	return c == ' ' || c == '\t' || c == '\n'
}

func inLine(c byte) bool {
	return c != '\n'
}

func letter(c byte) bool {
	return 'a' <= c && c <= 'z' || 'A' <= c && c <= 'Z'
}

func digit(c byte) bool {
	return '0' <= c && c <= '9'
}

func inName(c byte) bool {
	return letter(c) || digit(c) || c == '.'
}

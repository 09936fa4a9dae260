package formula

import "quantale/api"

// infix is a sign between two kids.
type infix struct {
	sign string
	op   int
}

var infixes = [...]infix{
	{"<=>", api.Iff}, {"=>", api.Imp}, {"||", api.Or}, {"&&", api.And},
	{"=", api.Eq}, {"<=", api.Le}, {"<", api.Lt}, {"in", api.Mem}, {"sub", api.Subset},
	{"+", api.Add}, {"-", api.Sub},
}

// signOf returns the sign of an operator, empty if none stands for it.
func signOf(op int) string {
	for _, i := range infixes {
		if i.op == op {
			return i.sign
		}
	}
	return ""
}

// operator returns what a sign between two kids stands for.
func operator(sign string) int {
	for _, i := range infixes {
		if i.sign == sign {
			return i.op
		}
	}
	return 0
}

// word is a word with the number of its arguments; without any it has no parentheses.
type word struct {
	text string
	op   int
	args int
}

var words = [...]word{
	{"true", api.True, 0}, {"false", api.False, 0}, {"empty", api.Empty, 0},
	{"sing", api.Sing, 1}, {"vlen", api.Len, 1},
	{"cup", api.Cup, 2}, {"cap", api.Cap, 2}, {"diff", api.Minus, 2}, {"sel", api.Sel, 2},
	{"sto", api.Sto, 3}, {"ite", api.Ite, 3},
}

// wordOf returns the word of an operator, and whether there is one.
func wordOf(op int) (word, bool) {
	for _, w := range words {
		if w.op == op {
			return w, true
		}
	}
	return word{}, false
}

// wordAt returns the word that a text is, and whether it is one that may begin a term or formula.
func wordAt(text string) (word, bool) {
	for _, w := range words {
		if w.text == text {
			return w, true
		}
	}
	return word{}, false
}

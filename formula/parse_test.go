package formula_test

import (
	"strings"
	"testing"

	"quantale/api"
)

var (
	a, b, c = v("a"), v("b"), v("c")
	x, y, s = v("x"), v("y"), v("s")
)

func TestParseJoins(t *testing.T) {
	for text, want := range map[string]api.Node{
		"a && b":        op(api.And, a, b),
		"a && b && c":   op(api.And, op(api.And, a, b), c),
		"a && (b && c)": op(api.And, a, op(api.And, b, c)),
		"a || b || c":   op(api.Or, op(api.Or, a, b), c),
		"a || (b || c)": op(api.Or, a, op(api.Or, b, c)),
		"a && b || c":   op(api.Or, op(api.And, a, b), c),
		"a || b && c":   op(api.Or, a, op(api.And, b, c)),
		"(a || b) && c": op(api.And, op(api.Or, a, b), c),
		"a => b":        op(api.Imp, a, b),
		"a => b => c":   op(api.Imp, a, op(api.Imp, b, c)),
		"(a => b) => c": op(api.Imp, op(api.Imp, a, b), c),
		"a || b => c":   op(api.Imp, op(api.Or, a, b), c),
		"a => b || c":   op(api.Imp, a, op(api.Or, b, c)),
		"a <=> b":       op(api.Iff, a, b),
		"a <=> b <=> c": op(api.Iff, a, op(api.Iff, b, c)),
		"a => b <=> c":  op(api.Iff, op(api.Imp, a, b), c),
		"a <=> b => c":  op(api.Iff, a, op(api.Imp, b, c)),
		"!a":            not(a),
		"!!a":           not(not(a)),
		"!a && b":       op(api.And, not(a), b),
		"a && !b || !c": op(api.Or, op(api.And, a, not(b)), not(c)),
		"!(a && b)":     not(op(api.And, a, b)),
		"a => !b":       op(api.Imp, a, not(b)),
	} {
		expectParse(t, text, want)
	}
}

func TestParseComparisons(t *testing.T) {
	for text, want := range map[string]api.Node{
		"x = y":         op(api.Eq, x, y),
		"x != y":        not(op(api.Eq, x, y)),
		"x < y":         op(api.Lt, x, y),
		"x <= y":        op(api.Le, x, y),
		"x > y":         op(api.Lt, y, x),
		"x >= y":        op(api.Le, y, x),
		"x in s":        op(api.Mem, x, s),
		"s sub s":       op(api.Subset, s, s),
		"!x = y":        not(op(api.Eq, x, y)),
		"!x != y":       not(not(op(api.Eq, x, y))),
		"x + 1 <= y":    op(api.Le, op(api.Add, x, num(1)), y),
		"x > y - 1":     op(api.Lt, op(api.Sub, y, num(1)), x),
		"(x = y) = a":   op(api.Eq, op(api.Eq, x, y), a),
		"x = y && a":    op(api.And, op(api.Eq, x, y), a),
		"a => x < y":    op(api.Imp, a, op(api.Lt, x, y)),
		"true = false":  op(api.Eq, isTrue(), op(api.False)),
		"-x in sing(y)": op(api.Mem, neg(x), op(api.Sing, y)),
	} {
		expectParse(t, text, want)
	}
}

func TestParseSums(t *testing.T) {
	for text, want := range map[string]api.Node{
		"x + y":         op(api.Add, x, y),
		"x - y":         op(api.Sub, x, y),
		"x - y + a":     op(api.Add, op(api.Sub, x, y), a),
		"x + y - a":     op(api.Sub, op(api.Add, x, y), a),
		"x - (y - a)":   op(api.Sub, x, op(api.Sub, y, a)),
		"x - 3":         op(api.Sub, x, num(3)),
		"x-3":           op(api.Sub, x, num(3)),
		"x - -3":        op(api.Sub, x, num(-3)),
		"x + -y":        op(api.Add, x, neg(y)),
		"-x + y":        op(api.Add, neg(x), y),
		"-3":            num(-3),
		"- 3":           num(-3),
		"-0":            num(0),
		"(-3)":          num(-3),
		"-(3)":          neg(num(3)),
		"-(-3)":         neg(num(-3)),
		"--3":           neg(num(-3)),
		"---3":          neg(neg(num(-3))),
		"-x":            neg(x),
		"--x":           neg(neg(x)),
		"-3 + x":        op(api.Add, num(-3), x),
		"3 * x":         scale(3, x),
		"3*x":           scale(3, x),
		"0 * x":         scale(0, x),
		"3 * 4":         scale(3, num(4)),
		"3 * 4 * x":     scale(3, scale(4, x)),
		"3 * -4":        scale(3, num(-4)),
		"3 * -x":        scale(3, neg(x)),
		"3 * -4 * x":    scale(3, neg(scale(4, x))),
		"-3 * x":        neg(scale(3, x)),
		"-3 * 4":        neg(scale(3, num(4))),
		"--3 * x":       neg(neg(scale(3, x))),
		"-(3 * x)":      neg(scale(3, x)),
		"3 * x + y":     op(api.Add, scale(3, x), y),
		"x + 3 * y":     op(api.Add, x, scale(3, y)),
		"x - 3 * y":     op(api.Sub, x, scale(3, y)),
		"x - -3 * y":    op(api.Sub, x, neg(scale(3, y))),
		"3 * (x + y)":   scale(3, op(api.Add, x, y)),
		"2 * f(x) - -1": op(api.Sub, scale(2, app("f", x)), num(-1)),
	} {
		expectParse(t, text, want)
	}
}

func TestParsePrimaries(t *testing.T) {
	for text, want := range map[string]api.Node{
		"x":                   x,
		"(x)":                 x,
		"((x))":               x,
		"7":                   num(7),
		"true":                isTrue(),
		"false":               op(api.False),
		"empty":               op(api.Empty),
		"f()":                 app("f"),
		"f ( )":               app("f"),
		"f(x)":                app("f", x),
		"f(x, y, 3)":          app("f", x, y, num(3)),
		"f(g(x), h())":        app("f", app("g", x), app("h")),
		"f(x = y, a => b)":    app("f", op(api.Eq, x, y), op(api.Imp, a, b)),
		"f(a <=> b)":          app("f", op(api.Iff, a, b)),
		"f(x,x,x,x,x,x,x,x)":  app("f", x, x, x, x, x, x, x, x),
		"sing(x)":             op(api.Sing, x),
		"vlen(a)":             op(api.Len, a),
		"cup(a, b)":           op(api.Cup, a, b),
		"cap(a, b)":           op(api.Cap, a, b),
		"diff(a, b)":          op(api.Minus, a, b),
		"sel(a, x)":           op(api.Sel, a, x),
		"sto(a, x, y)":        op(api.Sto, a, x, y),
		"ite(c, x, y)":        op(api.Ite, c, x, y),
		"ite(a <=> b, -1, x)": op(api.Ite, op(api.Iff, a, b), num(-1), x),
		"cup (sing(1),empty)": op(api.Cup, op(api.Sing, num(1)), op(api.Empty)),
		// a sort or form that is wrong is not Parse's to see
		"true + 1 <= empty": op(api.Le, op(api.Add, isTrue(), num(1)), op(api.Empty)),
	} {
		expectParse(t, text, want)
	}
}

func TestParseTokens(t *testing.T) {
	long := strings.Repeat("a", api.MaxLong)
	for text, want := range map[string]api.Node{
		" \t\n x \t\n ":              x,
		"# x\nx # y\n # z":           x,
		"x #\n#\n\n##\n":             x,
		"x # \u00e9 @ \x00 \r":       x,
		"x#<= 1\n<=#\n2":             op(api.Le, x, num(2)),
		"x<y":                        op(api.Lt, x, y),
		"x<=y":                       op(api.Le, x, y),
		"x<=>y":                      op(api.Iff, x, y),
		"x=>y":                       op(api.Imp, x, y),
		"x>=y":                       op(api.Le, y, x),
		"!x!=y":                      not(not(op(api.Eq, x, y))),
		"!!x":                        not(not(x)),
		"x&&y||s":                    op(api.Or, op(api.And, x, y), s),
		"3 in empty":                 op(api.Mem, num(3), op(api.Empty)),
		"3in empty":                  op(api.Mem, num(3), op(api.Empty)),
		"Cons(x, Nil)":               app("Cons", x, v("Nil")),
		"z.0 + z.12.":                op(api.Add, v("z.0"), v("z.12.")),
		"x1":                         v("x1"),
		"ins":                        v("ins"),
		"True":                       v("True"),
		"in.":                        v("in."),
		"not + len":                  op(api.Add, v("not"), v("len")),
		"let(if)":                    app("let", v("if")),
		long:                         v(long),
		long + "(1)":                 app(long, num(1)),
		"007":                        num(7),
		"0000000000007":              num(7),
		"1000000000000":              num(api.MaxNum),
		"-1000000000000":             num(-api.MaxNum),
		"1000000000000 * x":          scale(api.MaxNum, x),
		"-\n1000000000000\t*\nx # *": neg(scale(api.MaxNum, x)),
	} {
		expectParse(t, text, want)
	}
}

func TestParseFaults(t *testing.T) {
	for text, at := range map[string]int{
		// the end of the text
		"": 0, "  ": 2, "#": 1, " # x": 4, "x +": 3, "x + # y": 7, "(x": 2, "(x \n": 4, "!": 1, "-": 1, "3 *": 3, "a =>": 4, "a <=> ": 6, "a &&": 4, "x <": 3,
		"f(": 2, "f(x": 3, "f(x,": 4, "cup(x": 5, "sing": 4, "cup(x, ": 7, "ite ": 4,
		// a token that cannot begin anything
		")": 0, " , x": 1, "* x": 0, "= x": 0, "=> a": 0, "in s": 0, "sub s": 0, "+ x": 0, "&& a": 0, "()": 1, "x + * y": 4, "x + + y": 4, "x = !a": 4,
		"-!a": 1, "3 * !a": 4, "x in in": 5, "3 * * x": 4, "a && || b": 5, "a => => b": 5, "(+": 1, "! )": 2, "- )": 2, "x = <=> y": 4,
		// a token that cannot go on
		"x y": 2, "x 1": 2, "1 x": 2, "1 2": 2, "x)": 1, "(x))": 3, "x, y": 1, "x * 3": 2, "(3) * x": 4, "-(3) * x": 5, "x !a": 2, "true(": 4, "empty()": 5,
		"false x": 6, "f(x)(y)": 4, "3(x)": 1, "(x)(y)": 3, "(x y)": 3, "(x,y)": 2, "x true": 2, "x (": 3, "x ( y": 5,
		// comparisons do not chain
		"x < y < s": 6, "x = y = s": 6, "x <= y >= s": 7, "x in s in s": 7, "x != y = s": 7, "x sub y in s": 8, "x ==": 3, "x =>= y": 4, "x <=>= y": 5,
		"x >=> y": 4, "x !== y": 4, "x <> y": 3, "x => y = a < b": 11,
		// applications
		"f(,": 2, "f(x,)": 4, "f(x,,y)": 4, "f(x y)": 4, "f(x;y)": 3, "f)": 1, "f(()": 3,
		// words
		"sing x": 5, "sing()": 5, "sing(x, y)": 6, "vlen(a,a)": 6, "cup(x)": 5, "cup()": 4, "cup(x, y, z)": 8, "cup(x y)": 6, "cap(x)": 5, "diff(x,)": 7,
		"diff(x)": 6, "sel(a)": 5, "sel(a, x, y)": 8, "sto(a, x)": 8, "sto(a)": 5, "sto(a, x, y, s)": 11, "ite(c, x)": 8, "ite(c, x, y, s)": 11,
		"cup + x": 4, "sel": 3, "ite)": 3, "x + vlen = 1": 9,
		// other bytes
		"@": 0, "x @": 2, "x & y": 2, "x | y": 2, "a &&& b": 4, "a ||| b": 4, "_x": 0, "x_": 1, ".x": 0, "3.x": 1, "x . y": 2, "x\r": 1, "\r\nx": 0, "x\x00": 1,
		"\u00e9": 0, "x\u00e9": 1, "x \u00a0y": 2, "{v}": 0, "x ; y": 2, "x / y": 2, "x; # y": 1, "f[x]": 1, "\\": 0, "x'": 1, "\"x\"": 0, "\v": 0, "\fx": 0,
		"x\xff": 1, "(x @ y": 3, "f(x, @": 5, "3 @": 2, "-3 @": 3, "- @": 2,
		// a byte behind the first token that cannot follow is not needed
		") @": 0, "x y @": 2, "f(x,) @": 4, "sing @": 5, "cup(x) @": 5,
	} {
		expectFault(t, text, at)
	}
}

func TestParseNumbersAndNames(t *testing.T) {
	long := strings.Repeat("a", api.MaxLong+1)
	for text, at := range map[string]int{
		"1000000000001": 0, "9999999999999": 0, "10000000000000": 0, "00000000000007": 0, "99999999999999999999999": 0,
		"-1000000000001": 1, "- 1000000000001 * x": 2, "1000000000001 * x": 0, "x + 1000000000001": 4, "x 1000000000001": 2, "f(1, 1000000000001)": 5,
		strings.Repeat("0", 100): 0, "x = -00000000000001": 5,
		long: 0, "x + " + long: 4, long + "(x)": 0, "x " + long: 2, "f(" + long: 2, "x" + strings.Repeat(".", api.MaxLong): 0,
		"sing" + long: 0, strings.Repeat("b", 50000): 0,
		// what comes first counts
		"x y " + long: 2, "1000000000001 " + long: 0, long + " 1000000000001": 0, "(x 1 @": 3,
	} {
		expectFault(t, text, at)
	}
}

func TestParseArguments(t *testing.T) {
	eight := "f(" + many(api.MaxArgs, "x", ", ")
	expectParsed(t, "eight arguments", eight+")")
	expectParsed(t, "eight arguments each", "f(f("+many(8, "x", ",")+"),"+many(7, "g("+many(8, "1", ",")+")", ",")+")")
	for _, more := range []string{", x)", ", x, x)", ",y", ", (", ", @", ", )", ",", ",  ", ", # x", ", 1000000000001", ", -3 * x)", ", g(x))"} {
		at := len(eight) + len(more) - len(strings.TrimLeft(more, ", "))
		if strings.Contains(more, "#") {
			at = len(eight) + len(more)
		}
		expectFault(t, eight+more, at)
	}
	expectFault(t, eight+" y)", len(eight)+1)
	expectFault(t, "g(x, "+eight+", x))", 5+len(eight)+2)
}

// opening is a text that holds one more level open, with what ends it.
type opening struct {
	name, open, shut string
}

func openings() []opening {
	return []opening{{"parentheses", "(", ")"}, {"!", "!", ""}, {"-", "-", ""}, {"numbers with *", "3 * ", ""}, {"=>", "x => ", ""}, {"<=>", "x <=> ", ""},
		{"applications", "f(", ")"}, {"later arguments", "f(x, ", ")"}, {"words", "sing(", ")"}, {"later arguments of words", "ite(a, b, ", ")"}}
}

func TestParseOpen(t *testing.T) {
	for _, o := range openings() {
		expectParsed(t, o.name, shut(90, o.open, "x", o.shut))
		expectTooMuch(t, o.name, shut(91, o.open, "x", o.shut))
		// they count together
		for _, p := range openings() {
			if (o.name == "!" || strings.HasSuffix(o.name, ">")) && (p.name == "-" || p.name == "numbers with *") {
				expectParsed(t, o.name+", "+p.name, shut(45, o.open, shut(45, p.open, "x", p.shut), o.shut))
				expectTooMuch(t, o.name+", "+p.name, shut(45, o.open, shut(46, p.open, "x", p.shut), o.shut))
			}
			in := "(" + shut(45, p.open, "x", p.shut) + ")"
			expectParsed(t, o.name+", "+p.name, shut(44, o.open, in, o.shut))
			expectTooMuch(t, o.name+", "+p.name, shut(45, o.open, in, o.shut))
		}
		// what is closed does not
		expectParsed(t, o.name+", closed", many(3, "("+shut(89, o.open, "x", o.shut)+")", " && "))
	}
	expectTooMuch(t, "-, *", shut(89, "(", "-3 * x", ")"))
	expectParsed(t, "-, *", shut(88, "(", "-3 * x", ")"))
	expectParsed(t, "a negative number opens nothing", shut(90, "(", "-3", ")"))
	expectParsed(t, "a name opens nothing", shut(90, "(", "x + 1 - y <= 2 && true || x in empty", ")"))
	expectParsed(t, "! ends with its operand", many(95, "!x", " || "))
	expectParsed(t, "- ends with its operand", many(95, "-x", " + "))
	expectParsed(t, "* ends with its operand", many(95, "3 * x", " - "))
	expectParsed(t, "=> ends at <=>", "("+strings.Repeat("x => ", 89)+"x <=> "+strings.Repeat("x => ", 88)+"x)")
	expectTooMuch(t, "=> behind <=>", "("+strings.Repeat("x => ", 89)+"x <=> "+strings.Repeat("x => ", 89)+"x)")
}

// The first of what is wrong counts, be it a level too many or a token.
func TestParseOpenOrder(t *testing.T) {
	for _, o := range openings() {
		full := strings.Repeat(o.open, 90)
		for _, rest := range []string{"", "@", ",", "1000000000001", strings.Repeat("b", api.MaxLong+1)} {
			expectFault(t, full+rest, len(full))
			if o.open == "-" && rest == "1000000000001" {
				// a `-` of a negative number opens nothing
				expectFault(t, full+o.open+rest, len(full)+1)
				continue
			}
			expectTooMuch(t, o.name, full+o.open+rest)
		}
		expectFault(t, "x y "+full+o.open, 2)
	}
	full := strings.Repeat("(", 90)
	for _, rest := range []string{"-)", "-", "-x", "!@", "x => @", "x <=> )", "3 * @", "-3 * @", "f(@", "f( )", "cup(@"} {
		expectTooMuch(t, rest, full+rest)
	}
	for rest, at := range map[string]int{"-3 @": 3, "1000000000001 * x": 0, "1000000000001 * @": 0, "in (": 0, "x y (": 2, "1 (": 2, "cup @": 4,
		strings.Repeat("b", api.MaxLong+1) + "(": 0} {
		expectFault(t, full+rest, 90+at)
	}
	// the 9th argument is refused before it opens anything
	expectFault(t, strings.Repeat("(", 89)+"f("+strings.Repeat("x,", 8)+"(", 89+2+16)
}

// dashes are texts of a `-`, with what may stand between it and the next token.
func dashes() []string { return []string{"-", "- ", "-\t# 1 *\n"} }

// A `-` before anything but a number opens a level, and that counts ahead of what it stands before.
func TestParseMinusOrder(t *testing.T) {
	for _, o := range openings() {
		full, last := strings.Repeat(o.open, 90), strings.Repeat(o.open, 89)
		for _, dash := range dashes() {
			for _, rest := range []string{"", "@", "?", "&", "\xff", ")", ",", "*", "* 1", "=", "in", strings.Repeat("b", api.MaxLong+1)} {
				expectTooMuch(t, o.name+", "+dash+rest, full+dash+rest)
				expectFault(t, last+dash+rest, len(last+dash))
			}
			for _, rest := range []string{"x", "(", "-1", "- @", "-1000000000001", "-1000000000001 * x", "f(@)", "(1000000000001)"} {
				expectTooMuch(t, o.name+", "+dash+rest, full+dash+rest)
			}
			for _, rest := range []string{"-@", "- 1 * x", "-1000000000001 * x", "-x", "3 * x", "3 * @"} {
				expectTooMuch(t, o.name+", "+dash+rest, last+dash+rest)
			}
			expectFault(t, last+dash+"-1000000000001", len(last+dash)+1)
			expectFault(t, last+dash+"1000000000001 * x", len(last+dash))
		}
	}
	// between two operands it opens nothing
	full := strings.Repeat("(", 90)
	expectFault(t, full+"x - @", 94)
	expectFault(t, full+"x - 1000000000001 * x", 94)
	expectFault(t, full+"x - -1000000000001", 95)
	expectTooMuch(t, "-1000000000001 * x behind a sum's -", full+"x - -1000000000001 * x")
	expectTooMuch(t, "-@ behind a sum's -", full+"x - -@")
}

// Before a number, a `*` behind that number tells whether the `-` opens a level, whatever is wrong with the number.
func TestParseMinusOfNumbers(t *testing.T) {
	good := []string{"0", "7", "0000000000007", "1000000000000"}
	bad := []string{"1000000000001", "9999999999999", "99999999999999", "00000000000007", strings.Repeat("9", 30)}
	behind := []string{"", "@", "?", "&", "\xff", "x", "(", "!", "5", "1000000000001 * x"}
	for _, o := range openings() {
		full := strings.Repeat(o.open, 90)
		for _, dash := range dashes() {
			for _, number := range append(good, bad...) {
				for _, star := range []string{"*", " * x", "*@", "# 2\n* )", "\t*\n-1000000000001"} {
					expectTooMuch(t, o.name+", "+number+star, full+dash+number+star)
				}
			}
			for _, rest := range behind {
				for _, number := range bad {
					expectFault(t, full+dash+number+" "+rest, len(full+dash))
				}
				for _, number := range good {
					if rest != "" {
						expectFault(t, full+dash+number+"# *\n"+rest, len(full+dash+number)+4)
					}
				}
			}
		}
	}
}

func TestParseLimits(t *testing.T) {
	expectParsed(t, "the longest text", strings.Repeat(" ", api.MaxText-1)+"x")
	expectParsed(t, "the longest text", "x #"+strings.Repeat("y", api.MaxText-3))
	for _, text := range []string{strings.Repeat(" ", api.MaxText) + "x", "x #" + strings.Repeat("y", api.MaxText), strings.Repeat("@", api.MaxText+1),
		strings.Repeat(")", api.MaxText+1), strings.Repeat("(", api.MaxText+1)} {
		expectTooMuch(t, "a longer text", text)
	}
	expectFault(t, strings.Repeat(" ", api.MaxText), api.MaxText)
	// levels
	for _, sign := range []string{" + ", " - ", " && ", " || "} {
		expectParsed(t, "100 levels", many(api.MaxNest, "x", sign))
		expectTooMuch(t, "101 levels", many(api.MaxNest+1, "x", sign))
		expectTooMuch(t, "very many levels", many(api.MaxText/2/len(sign), "x", sign))
	}
	expectParsed(t, "100 levels", strings.Repeat("-(0 + ", 45)+many(10, "x", " + ")+strings.Repeat(")", 45))
	expectTooMuch(t, "101 levels", strings.Repeat("-(0 + ", 45)+many(11, "x", " + ")+strings.Repeat(")", 45))
	// nodes: f of 7 g of 8 kids each has 7 * 9 + 1 = 64; 61 of them joined have 61 * 64 + 60 = 3964
	eight := "g(" + many(8, "x", ",") + ")"
	f := "f(" + many(7, eight, ",") + ")"
	full := many(61, f, " + ")
	expectParsed(t, "3964 nodes", full)
	expectParsed(t, "4000 nodes", full+" + "+many(4, eight[:2]+many(7, "x", ",")+")", " + "))
	expectTooMuch(t, "4001 nodes", full+" + "+eight+" + "+many(3, eight[:2]+many(7, "x", ",")+")", " + "))
	// a fault counts ahead of the nodes
	expectFault(t, full+" + "+full+" + )", 2*len(full)+6)
	expectFault(t, many(5000, "x", " + ")+" @", 4*5000-2)
}

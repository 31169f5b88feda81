package tests

import (
	"slices"
	"strconv"
	"strings"
	"testing"

	"loop.example/siskin/impl"
)

func TestExpandBadForms(t *testing.T) {
	demandFaults(t, []faultCase{
		{"()", 1, ""}, {"(f ())", 1, ""}, {"(() x)", 1, ""}, {"(f . x)", 1, "f"}, {"(1 . 2)", 1, ""}, {"(1 . x)", 1, "x"}, {"((f a) . x)", 1, "f"}, {"(f (1 y . x))", 1, "y"},
		{"(quote)", 1, "quote"}, {"(quote a b)", 1, "quote"}, {"(quote . a)", 1, "quote"}, {"(f (quote))", 1, "quote"},
		{"(if)", 1, "if"}, {"(if 1)", 1, "if"}, {"(if 1 2 3 4)", 1, "if"}, {"(if 1 . 2)", 1, "if"}, {"(if 1 2 . 3)", 1, "if"}, {"(if 1 2 3 . 4)", 1, "if"},
		{"(f (begin))", 1, "begin"}, {"(begin . 1)", 1, "begin"}, {"(begin 1 . 2)", 1, "begin"}, {"(f (begin 1 . x))", 1, "begin"}, {"(lambda () 1 (begin))", 1, "begin"}, {"(lambda () (begin . x))", 1, "begin"},
		{"(set!)", 1, "set!"}, {"(set! x)", 1, "set!"}, {"(set! x 1 2)", 1, "set!"}, {"(set! 1 2)", 1, "set!"}, {"(set! (x) 2)", 1, "set!"}, {"(set! () 2)", 1, "set!"}, {"(set! x . 1)", 1, "set!"}, {"(set! x 1 . 2)", 1, "set!"},
		{"(lambda)", 1, "lambda"}, {"(lambda (x))", 1, "lambda"}, {"(lambda . x)", 1, "lambda"}, {"(lambda (x) . x)", 1, "lambda"}, {"(lambda (x) 1 . x)", 1, "lambda"}, {"(lambda (x x) 1)", 1, "lambda"}, {"(lambda (x y . x) 1)", 1, "lambda"}, {"(lambda (1) 1)", 1, "lambda"}, {"(lambda 1 1)", 1, "lambda"}, {"(lambda (x . 1) 1)", 1, "lambda"}, {"(lambda (x (y)) 1)", 1, "lambda"}, {"(lambda (()) 1)", 1, "lambda"}, {"(lambda ((x) . y) 1)", 1, "lambda"}, {"(lambda \"x\" 1)", 1, "lambda"},
		{"(lambda (x) (define y 1))", 1, "lambda"}, {"(lambda (x) (begin))", 1, "lambda"}, {"(lambda () (define-syntax m (syntax-rules ())))", 1, "lambda"}, {"(define-syntax m (syntax-rules () ((_) (begin)))) (lambda () (m))", 1, "lambda"}, {"(lambda () (lambda (y) (begin)))", 1, "lambda"},
		{"(define)", 1, "define"}, {"(define x)", 1, "define"}, {"(define x 1 2)", 1, "define"}, {"(define 1 2)", 1, "define"}, {"(define () 1)", 1, "define"}, {"(define (f))", 1, "define"}, {"(define (1) 2)", 1, "define"}, {"(define ((f) a) 2)", 1, "define"}, {"(define (1 . x) 2)", 1, "define"}, {"(define . x)", 1, "define"}, {"(define x . 1)", 1, "define"}, {"(define x 1 . 2)", 1, "define"}, {"(define (f) . 1)", 1, "define"}, {"(define (f) 1 . 2)", 1, "define"},
		{"(define (f x x) 1)", 1, "f"}, {"(define (f x . x) 1)", 1, "f"}, {"(define (f 1) 1)", 1, "f"}, {"(define (f . 1) 1)", 1, "f"}, {"(define (f (x)) 1)", 1, "f"}, {"(define (f) (define y 1))", 1, "f"}, {"(define (f) (begin))", 1, "f"},
		{"(define-syntax)", 1, "define-syntax"}, {"(define-syntax m)", 1, "define-syntax"}, {"(define-syntax m (syntax-rules ()) 1)", 1, "define-syntax"}, {"(define-syntax (m) (syntax-rules ()))", 1, "define-syntax"}, {"(define-syntax 1 (syntax-rules ()))", 1, "define-syntax"}, {"(define-syntax . m)", 1, "define-syntax"}, {"(define-syntax m . x)", 1, "define-syntax"}, {"(define-syntax m (syntax-rules ()) . x)", 1, "define-syntax"}, {"(define-syntax 1 2)", 1, "define-syntax"},
		{"(f (define x 1))", 1, "define"}, {"(if (define x 1) 2)", 1, "define"}, {"(f (begin (define x 1)))", 1, "define"}, {"(f (define-syntax m (syntax-rules ())))", 1, "define-syntax"}, {"(lambda () 1 (define x 1))", 1, "define"}, {"(lambda () x (define-syntax m (syntax-rules ())) 1)", 1, "define-syntax"}, {"(define x (define y 1))", 1, "define"}, {"(lambda () (define x (define y 1)) x)", 1, "define"}, {"(lambda () (begin 1 (define x 1)))", 1, "define"}, {"(lambda () (begin 1) (define x 1))", 1, "define"},
		{"(lambda () (define x))", 1, "define"}, {"(lambda () (define-syntax m) 1)", 1, "define-syntax"}, {"(lambda () (define . x))", 1, "define"}, {"(lambda () (define (f x x) 1) 2)", 1, "f"}, {"(lambda () (define (f) (define g 1)) 2)", 1, "f"}, {"(lambda () (define (f)) 2)", 1, "define"},
	})
}

func TestExpandOtherFaults(t *testing.T) {
	demandFaults(t, []faultCase{
		{"if", 5, "if"}, {"(f begin)", 5, "begin"}, {"(1 define)", 5, "define"}, {"(set! lambda 1)", 5, "lambda"}, {"(if quote 1)", 5, "quote"}, {"(define x set!)", 5, "set!"}, {"(lambda () define-syntax)", 5, "define-syntax"},
		{"(define-syntax m (syntax-rules ())) m", 5, "m"}, {"(define-syntax m (syntax-rules ())) (set! m 1)", 5, "m"}, {"(define-syntax m (syntax-rules ())) (f m)", 5, "m"}, {"(lambda () (define-syntax m (syntax-rules ())) m)", 5, "m"},
		{"(define-syntax m (syntax-rules ())) (m 1)", 2, "m"}, {"(define-syntax m (syntax-rules () ((_ a) 1))) (f (m))", 2, "m"}, {"(define-syntax m (syntax-rules (else) ((_ else) 1))) (lambda () (m if))", 2, "m"}, {"(define-syntax m (syntax-rules () ((_ a) 1))) (m . 1)", 2, "m"}, {"(define-syntax m (syntax-rules (else) ((_ else) 1))) (lambda (else) (f (m else)))", 2, "m"},
		{"(define-syntax m 1)", 6, "m"}, {"(define-syntax m m)", 6, "m"}, {"(define-syntax m (syntax-rules))", 6, "m"}, {"(define-syntax m (syntax-rules (...)))", 6, "m"}, {"(define-syntax m (syntax-rules () ((_ a a) 1)))", 6, "m"}, {"(define-syntax m (lambda (x) x))", 6, "m"}, {"(lambda () (define-syntax m 1) 1)", 6, "m"},
		{"(define-syntax m (syntax-rules () ((_) (a ...)))) (m)", 6, "m"}, {"(define-syntax m (syntax-rules () ((_ a ...) a))) (f (m 1))", 6, "m"}, {"(define-syntax m (syntax-rules () ((_ a) '(a a)))) (m (" + strings.Repeat("1 ", 800) + "))", 6, "m"}, {"(define-syntax m (syntax-rules () ((_ a) '(a a)))) (m (" + strings.Repeat("1 ", 740) + "))", 0, ""}, {"(define-syntax m (syntax-rules () ((_ (a ...) (b ...)) '((a b) ...)))) (m (1) (2 3))", 6, "m"},
	})
}

// unclear is a program in which u, as it stands there, has two bindings that fit, and a use of m compares with the literal u.
func unclear(behind ...impl.ExpForm) []impl.ExpForm {
	word := func(text string) impl.ExpForm { return id(text, 1) }
	return append([]impl.ExpForm{
		list(word("define"), id("u", 1, 100), atom("1")), list(word("define"), id("u", 1, 101), atom("1")),
		list(word("define-syntax"), word("m"), list(word("syntax-rules"), list(id("u", 1, 100, 101), word("v")),
			list(list(word("_"), id("v", 1)), atom("1")), list(list(word("_"), atom("7"), id("u", 1, 100, 101)), atom("1")), list(list(word("_"), id("v", 1), id("v", 1)), list(word("..."))))),
	}, behind...)
}

func TestExpandUnclearIdentifiers(t *testing.T) {
	u, word := id("u", 1, 100, 101), func(text string) impl.ExpForm { return id(text, 1) }
	for i, c := range []struct {
		form impl.ExpForm
		want impl.ExpFault
	}{
		{u, impl.ExpFault{Code: 3, Text: "u"}}, {list(u, atom("1")), impl.ExpFault{Code: 3, Text: "u"}}, {dots(u, atom("1")), impl.ExpFault{Code: 3, Text: "u"}}, {list(word("f"), list(u, list())), impl.ExpFault{Code: 3, Text: "u"}}, {list(word("set!"), u, list()), impl.ExpFault{Code: 3, Text: "u"}}, {list(word("f"), dots(u, atom("1"))), impl.ExpFault{Code: 3, Text: "u"}},
		{list(word("lambda"), list(), list(u)), impl.ExpFault{Code: 3, Text: "u"}}, {list(word("quote"), u), impl.ExpFault{}}, {list(word("lambda"), list(u), u), impl.ExpFault{}}, {list(word("define"), u, u), impl.ExpFault{}},
		// In the body the first form is asked for what it is ahead of what is defined.
		{list(word("lambda"), list(), list(word("define"), word("x"), list()), list(u)), impl.ExpFault{Code: 3, Text: "u"}}, {list(word("lambda"), list(), list(word("define"), word("x"), list()), u), impl.ExpFault{Code: 1}}, {list(word("lambda"), list(), list(word("define"), word("x"), list()), atom("1"), list(u)), impl.ExpFault{Code: 1}},
		// Compared with a literal, that is clear, or with one that is not: ahead of no rule, and of a template that cannot be made.
		{list(word("m"), u), impl.ExpFault{Code: 3, Text: "u"}}, {list(word("m"), atom("7"), word("w")), impl.ExpFault{Code: 3, Text: "u"}}, {list(word("m"), atom("7"), u), impl.ExpFault{Code: 3, Text: "u"}}, {list(word("m"), atom("7"), atom("8")), impl.ExpFault{Code: 2, Text: "m"}}, {list(word("m"), word("v")), impl.ExpFault{}}, {list(word("m"), word("w")), impl.ExpFault{Code: 2, Text: "m"}}, {list(word("m"), word("v"), u), impl.ExpFault{Code: 3, Text: "u"}}, {list(word("m"), word("v"), word("v")), impl.ExpFault{Code: 6, Text: "m"}},
	} {
		forms := unclear(c.form)
		if got := demandExpand(t, showProgram(forms), forms).Fault; got != c.want {
			t.Errorf("case %d: %v and not %v", i, got, c.want)
		}
	}
}

// Of those compared that are unclear the first one of the form is told, and a literal only if there is none.
func TestExpandUnclearFirst(t *testing.T) {
	word := func(text string) impl.ExpForm { return id(text, 1) }
	var forms []impl.ExpForm
	for _, text := range []string{"p", "q", "r"} {
		forms = append(forms, list(word("define"), id(text, 1, 100), atom("1")), list(word("define"), id(text, 1, 101), atom("1")))
	}
	p, q, r := id("p", 1, 100, 101), id("q", 1, 100, 101), id("r", 1, 100, 101)
	forms = append(forms, list(word("define-syntax"), word("m"), list(word("syntax-rules"), list(p, word("v")),
		list(list(word("_"), p, atom("1")), atom("1")), list(list(word("_"), word("v"), word("v")), atom("2")), list(list(word("_"), word("a"), word("v")), atom("3")))))
	for i, c := range []struct {
		parts []impl.ExpForm
		at    string
	}{
		{[]impl.ExpForm{word("w"), word("w")}, "p"}, {[]impl.ExpForm{word("v"), q}, "q"}, {[]impl.ExpForm{r, q}, "r"}, {[]impl.ExpForm{atom("1"), q}, "q"}, {[]impl.ExpForm{word("v"), word("v")}, "p"},
	} {
		whole := append(slices.Clone(forms), list(append([]impl.ExpForm{word("m")}, c.parts...)...))
		if got := demandExpand(t, showProgram(whole), whole).Fault; got != (impl.ExpFault{Code: 3, Text: c.at}) {
			t.Errorf("case %d: %v and not %s", i, got, c.at)
		}
	}
}

func TestExpandFirstFault(t *testing.T) {
	demandFaults(t, []faultCase{
		{"(if) begin", 1, "if"}, {"begin (if)", 5, "begin"}, {"(f begin (if))", 5, "begin"}, {"(f (if) begin)", 1, "if"}, {"(begin (if) begin)", 1, "if"}, {"((if) begin)", 1, "if"},
		{"(if begin)", 1, "if"}, {"(if begin () (set!))", 5, "begin"}, {"(if 1 () begin)", 1, ""}, {"(set! begin ())", 5, "begin"}, {"(set! x begin 1)", 1, "set!"}, {"(lambda (x x) begin)", 1, "lambda"}, {"(lambda (if) (if) begin)", 5, "begin"},
		{"(lambda () (define x begin) (define y 1 2) 1)", 1, "define"}, {"(lambda () (define x begin) (define (y 1) 1) 1)", 5, "begin"}, {"(lambda () (define (y 1) 1) (define x begin) 1)", 1, "y"}, {"(lambda () (define x begin))", 1, "lambda"}, {"(lambda () (define x begin) ())", 5, "begin"}, {"(lambda () (define x ()) begin)", 1, ""}, {"(lambda () (define x begin) (define-syntax m 1) 1)", 6, "m"}, {"(lambda () (define x begin) 1 (define y))", 5, "begin"},
		{"(define (f x x) begin)", 1, "f"}, {"(define x (if)) begin", 1, "if"}, {"(define-syntax 5 m)", 1, "define-syntax"}, {"(define-syntax m 1 2)", 1, "define-syntax"},
		{"(define-syntax m (syntax-rules ())) (lambda () (define x begin) (m))", 2, "m"}, {"(define-syntax m (syntax-rules ())) (lambda () (define x begin) 1 (m))", 5, "begin"}, {"(define-syntax m (syntax-rules () ((_ a) a))) (m (if)) begin", 1, "if"}, {"(define-syntax m (syntax-rules ())) (f (m begin) (if))", 2, "m"},
	})
}

func TestExpandAsksForForms(t *testing.T) {
	tooMany := slices.Repeat([]impl.ExpForm{atom("1")}, impl.ExpMaxForms+1)
	for what, f := range someNotOk() {
		for _, forms := range [][]impl.ExpForm{{f}, {read("(if)"), f}, {f, read("(if)")}, {list(id("quote", 1), f)}, append(slices.Clone(tooMany), f)} {
			if r := impl.ExpExpand(forms); !sameResult(r, impl.ExpResult{Fault: impl.ExpFault{Code: 1}}) {
				t.Errorf("%s: %v", what, r.Fault)
			}
		}
	}
	for _, f := range someOk() {
		demandExpand(t, impl.ExpShow(f), []impl.ExpForm{f})
		demandExpand(t, impl.ExpShow(f), []impl.ExpForm{list(id("quote", 0), f)})
	}
}

func TestExpandManyForms(t *testing.T) {
	for _, c := range []struct {
		forms []impl.ExpForm
		want  int
	}{
		{slices.Repeat([]impl.ExpForm{atom("1")}, impl.ExpMaxForms), 0}, {slices.Repeat([]impl.ExpForm{atom("1")}, impl.ExpMaxForms+1), 4}, {append(slices.Repeat([]impl.ExpForm{list()}, impl.ExpMaxForms), list()), 4},
		{[]impl.ExpForm{wide(impl.ExpMaxForms)}, 0}, {[]impl.ExpForm{wide(impl.ExpMaxForms), atom("1")}, 4}, {[]impl.ExpForm{wide(impl.ExpMaxForms / 2), wide(impl.ExpMaxForms / 2)}, 0}, {[]impl.ExpForm{wide(impl.ExpMaxForms / 2), wide(impl.ExpMaxForms/2 + 1)}, 4}, {[]impl.ExpForm{wide(impl.ExpMaxForms), wide(impl.ExpMaxForms), wide(impl.ExpMaxForms)}, 4},
	} {
		r := impl.ExpExpand(c.forms)
		if r.Fault != (impl.ExpFault{Code: c.want}) || !sameResult(r, wantExpand(c.forms)) {
			t.Errorf("%d forms: %v", len(c.forms), r.Fault)
		}
	}
}

// countdown is a macro of which a use with a form and so many others comes to the form, behind one use more than there are others.
const countdown = "(define-syntax c (syntax-rules () ((_ e) e) ((_ e a b ...) (c e b ...)))) "

func counting(form string, uses int) string {
	return "(c " + form + strings.Repeat(" 1", uses-1) + ")"
}

func TestExpandManySteps(t *testing.T) {
	demandFaults(t, []faultCase{
		{countdown + counting("z", impl.ExpMaxSteps), 0, ""}, {countdown + counting("z", impl.ExpMaxSteps+1), 4, "c"},
		{countdown + "(lambda () " + counting("z", impl.ExpMaxSteps) + ")", 0, ""}, {countdown + "(lambda () " + counting("z", impl.ExpMaxSteps+1) + ")", 4, "c"},
		{countdown + counting("1", 150) + "(f " + counting("z", 50) + ")", 0, ""}, {countdown + counting("1", 150) + "(f " + counting("z", 50) + " (c ()))", 4, "c"}, {countdown + counting("1", 150) + "(f " + counting("()", 50) + " (c z))", 1, ""},
		{"(define-syntax m (syntax-rules () ((_) (m)))) (m)", 4, "m"}, {"(define-syntax m (syntax-rules () ((_) (begin (m))))) (lambda () (m))", 4, "m"},
		{countdown + counting("z", impl.ExpMaxSteps) + " (define-syntax n (syntax-rules ())) (n)", 4, "n"}, {countdown + counting("z", impl.ExpMaxSteps-1) + " (define-syntax n (syntax-rules ())) (n)", 2, "n"},
		{countdown + "(begin" + strings.Repeat(" (c 1)", impl.ExpMaxSteps) + ")", 0, ""}, {countdown + "(begin" + strings.Repeat(" (c 1)", impl.ExpMaxSteps+1) + ")", 4, "c"},
	})
}

// Each hole is so deep, and is no place where a use is opened.
func TestExpandDeep(t *testing.T) {
	for _, c := range []struct {
		text string
		deep int
	}{
		{"(f HOLE)", 1}, {"(HOLE x)", 1}, {"(if HOLE 1)", 1}, {"(if 1 HOLE)", 1}, {"(if 1 2 HOLE)", 1}, {"(f (begin 1 HOLE))", 2}, {"(set! x HOLE)", 1}, {"(f (f (g HOLE)))", 3}, {"(define x HOLE)", 0}, {"(begin (begin (define x HOLE)))", 0},
		{"(lambda () 1 HOLE)", 1}, {"(lambda () (begin (begin 1 HOLE)))", 1}, {"(lambda () (define x HOLE) 1)", 1}, {"(define (p) 1 HOLE)", 1}, {"(define (p) (define x HOLE) 1)", 1}, {"(lambda () (define (p) 1 HOLE) 1)", 2}, {"(lambda () (lambda () 1 HOLE))", 2}, {"(f (lambda () 1 HOLE))", 2}, {"(f (lambda () (f HOLE)))", 3}, {"(f (c (f HOLE)))", 3}, {"(c (f HOLE))", 1}, {"(lambda () (c (f HOLE)))", 2},
		{strings.Repeat("(f ", 50) + "HOLE" + strings.Repeat(")", 50), 50},
	} {
		uses := impl.ExpMaxDeep - c.deep
		demandFaults(t, []faultCase{
			{countdown + strings.Replace(c.text, "HOLE", counting("z", uses), 1), 0, ""}, {countdown + strings.Replace(c.text, "HOLE", counting("z", uses+1), 1), 4, "z"},
			{countdown + strings.Replace(c.text, "HOLE", counting("'z", uses+1), 1), 4, "quote"}, {countdown + strings.Replace(c.text, "HOLE", counting("1", uses+1), 1), 4, ""}, {countdown + strings.Replace(c.text, "HOLE", counting("(set! y 1)", uses), 1), 4, ""}, {countdown + strings.Replace(c.text, "HOLE", counting("(y z)", uses), 1), 4, "y"}, {countdown + strings.Replace(c.text, "HOLE", counting("(lambda (y) z)", uses), 1), 4, "z"}, {countdown + strings.Replace(c.text, "HOLE", counting("(lambda (y) (define (p) z) (if))", uses), 1), 4, "p"}, {countdown + strings.Replace(c.text, "HOLE", counting("'(((z)))", uses), 1), 0, ""},
		})
	}
	demandFaults(t, []faultCase{{"(define-syntax m (syntax-rules () ((_) (m)))) (f (m))", 4, "m"}, {countdown + "(f " + counting("(c z)", impl.ExpMaxDeep-1) + ")", 4, "z"}, {countdown + "(f " + counting("(c z)", impl.ExpMaxDeep) + ")", 4, "c"}})
}

// filled is a text that comes to so many Cores, all told.
func filled(cores int) string {
	hundred := "(define-syntax t (syntax-rules () ((_) (f" + strings.Repeat(" x", 98) + ")))) "
	return hundred + strings.Repeat("(t) ", cores/100) + strings.Repeat("1 ", cores%100)
}

// Behind the text of each case, so many Cores come to be, the last one told so: it may be the last one there may be, and one more is too much.
func TestExpandManyCores(t *testing.T) {
	for _, c := range []struct {
		text  string
		cores int
		at    string
	}{
		{"z", 1, "z"}, {"1", 1, ""}, {"'z", 1, "quote"}, {"(p)", 2, "p"}, {"(p z)", 3, "p"}, {"(p (q z))", 5, "p"}, {"(1 z)", 3, "z"}, {"(if z 1)", 3, "if"}, {"(if 1 2 z)", 4, "if"}, {"(p (begin z))", 4, "p"}, {"(set! y z)", 3, "set!"}, {"(set! y 1)", 3, "set!"}, {"(begin (begin z) y)", 2, "y"},
		{"(lambda () z)", 2, "lambda"}, {"(lambda (a) a z)", 4, "lambda"}, {"(lambda (a) (define b z) b)", 4, "lambda"}, {"(lambda (a) (define b z) b a)", 6, "lambda"}, {"(define y z)", 2, "define"}, {"(define (p) z)", 3, "p"}, {"(define (p) y z)", 5, "p"}, {"(define (p) (define y z) y)", 5, "p"}, {"(lambda () (define (p) z) 1)", 5, "lambda"},
	} {
		demandFaults(t, []faultCase{{filled(impl.ExpMaxCores-c.cores) + c.text, 0, ""}, {filled(impl.ExpMaxCores-c.cores+1) + c.text, 4, c.at}})
	}
	demandFaults(t, []faultCase{
		{filled(impl.ExpMaxCores), 0, ""}, {filled(impl.ExpMaxCores) + "(begin)", 0, ""}, {filled(impl.ExpMaxCores) + "(define-syntax m (syntax-rules ()))", 0, ""}, {filled(impl.ExpMaxCores) + "(if)", 1, "if"},
		{filled(impl.ExpMaxCores) + "(set! y z)", 4, "y"}, {filled(impl.ExpMaxCores-1) + "(set! y z)", 4, "z"}, {filled(impl.ExpMaxCores) + "(set! y if)", 4, "y"}, {filled(impl.ExpMaxCores) + "(set! if z)", 5, "if"}, {filled(impl.ExpMaxCores) + "(p (q))", 4, "p"}, {filled(impl.ExpMaxCores-1) + "(p (q))", 4, "q"},
		{filled(impl.ExpMaxCores-2) + "(lambda () y z)", 4, "lambda"}, {filled(impl.ExpMaxCores-2) + "(lambda () (define a y) z)", 4, "lambda"}, {filled(impl.ExpMaxCores-1) + "(lambda () (define (p) y) z)", 4, "p"}, {filled(impl.ExpMaxCores-2) + "(lambda () (define (p) y z) w)", 4, "p"}, {filled(impl.ExpMaxCores-1) + "(define (p) y)", 4, "p"}, {filled(impl.ExpMaxCores-2) + "(define (p) y z)", 4, "p"}, {filled(impl.ExpMaxCores-2) + "(define (p) (define a y) z)", 4, "p"}, {filled(impl.ExpMaxCores-1) + "(f (begin z))", 4, "z"}, {filled(impl.ExpMaxCores-2) + "(f (begin z))", 4, "begin"}, {filled(impl.ExpMaxCores-2) + "(f (if z y))", 4, "y"},
		{filled(impl.ExpMaxCores-1) + "(begin z y)", 4, "y"},
	})
}

func TestFilledIsAsManyAsItSays(t *testing.T) {
	for cores := range 350 {
		if got := countCores(impl.ExpExpand(readAll(filled(cores))).Cores); got != cores {
			t.Error("filled(" + strconv.Itoa(cores) + ") comes to " + strconv.Itoa(got))
		}
	}
}

func countCores(all []impl.ExpCore) int {
	count := len(all)
	for _, c := range all {
		count += countCores(c.Kids)
	}
	return count
}

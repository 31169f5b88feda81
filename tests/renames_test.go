package tests

import (
	"runtime"
	"strconv"
	"strings"
	"sync"
	"testing"
	"time"

	"loop.example/siskin/impl"
)

func TestRename(t *testing.T) {
	demandRenames(t,
		"(lambda (x*) x*)", "(lambda (x*) 1)", "(lambda x* x*)", "(lambda (a . x*) (x* a))", "(lambda (a* . x) (x a*))",
		"(lambda (x*) (lambda (x) x) x*)", "(lambda (x) (lambda (x*) x*) x)", "(lambda (x*) (lambda (y) x*) (f y))",
		"(lambda (x*) (set! x* (if x* 1 (f x*))))", "(lambda (x*) (begin x* 1) (x* x*))", "((lambda (x*) x*) x)",
		"(lambda (if*) (if* 1 2 3 4))", "(lambda (lambda*) (lambda* (x) x))", "(lambda (quote*) (quote* x))", "(lambda (define*) (define* x 1))",
		"x 'x (lambda (x*) (f x*)) x (define x 1)", "(define x 1) (lambda (x*) x*) (set! x x)",
		"(define (f x* . r) (f x* r))", "(define (f x . r*) (f x r*))", "(define f 1) (lambda (f*) f*)",
		"(lambda () (define x* 1) (define (f x) x) (f x*))", "(lambda () (define x 1) (define (f* x) x) (f* x))", "(lambda () (define x 1) (define (f x*) x*) (f x))",
		"(lambda () (define (x*) (y)) (define (y) (x*)) x*)", "(lambda () (begin (define x* 1) (begin (define y x*))) (begin x* y))",
		"(lambda (x*) (define x x) x)", "(lambda (x) (define x* x*) x*)",
		"(lambda () (define x* 1) (define x 2) x)", "(lambda () (define x 1) (define x* 2) x*)",
		"(lambda (x) 'y x) (lambda (y*) y*)",
	)
	forms, _ := marked("(lambda (x) x)")
	if got, ok := impl.ExpRename(forms, 2, "zz"); !ok || showProgram(got) != "(lambda (zz) zz)\n" {
		t.Errorf("%s %v", showProgram(got), ok)
	}
}

func TestRenameThroughMacros(t *testing.T) {
	demandRenames(t,
		"(define-syntax or (syntax-rules () ((_ a b) ((lambda (t) (if t t b)) a)))) (lambda (t* u) (or u t*))",
		"(define-syntax or (syntax-rules () ((_ a b) ((lambda (t*) (if t* t* b)) a)))) (lambda (t u) (or u t))",
		"(define-syntax or (syntax-rules () ((_ a b) ((lambda (t) (if t t b)) a)))) (lambda (t u*) (or u* t))",
		"(define-syntax m (syntax-rules () ((_ a) (lambda (a) x)))) (m x*) x",
		"(define-syntax m (syntax-rules () ((_ a) (f (lambda (a) a) (lambda (a) a))))) (m x*) x",
		"(define-syntax swap (syntax-rules () ((_ a b) ((lambda (t*) (set! a b) (set! b t*)) a)))) (lambda (t u) (swap t u))",
		"(define-syntax swap (syntax-rules () ((_ a b) ((lambda (t) (set! a b) (set! b t)) a)))) (lambda (t* u) (swap t* u))",
		"(define-syntax d (syntax-rules () ((_ a) (begin (define t* 1) (define a t*))))) (lambda () (d t) t)",
		"(define-syntax d (syntax-rules () ((_ a) (begin (define t 1) (define a t))))) (lambda () (d t*) t*)",
		"(lambda (x*) (define-syntax m (syntax-rules () ((_ x) (list x)) ((_) x*))) (lambda (x) (m) (m x)))",
		"(lambda (x) (define-syntax m (syntax-rules () ((_ x) (list x)) ((_) x))) (lambda (x*) (m) (m x*)))",
		"(define-syntax my (syntax-rules () ((_ n) (define-syntax n (syntax-rules () ((_ b) (lambda (t*) (b t*)))))))) (my k) (lambda (t) (k t))",
		"(define-syntax my (syntax-rules () ((_ n) (define-syntax n (syntax-rules () ((_ b) (lambda (t) (b t)))))))) (my k) (lambda (t*) (k t*))",
	)
}

// What is dropped, or was compared without being something else, is no reason.
func TestRenameOfDroppedAndCompared(t *testing.T) {
	demandRenames(t,
		"(define-syntax m (syntax-rules () ((_ a) 1))) (lambda (x*) (f (m x)) x*)",
		"(define-syntax m (syntax-rules () ((_ a) 1) ((_ a b) (lambda (x*) (x* a b))))) (m 1) (m 2 3)",
		"(lambda (m*) (define-syntax n (syntax-rules () ((m) 1))) (f (n) m*))",
		"(define-syntax m (syntax-rules (else) ((_ else) 1) ((_ a) a))) (lambda (x*) (m x*))",
		"(define-syntax m (syntax-rules (else) ((_ else) 1) ((_ a) a))) (lambda (else*) (m else*))",
		"(define-syntax m (syntax-rules (if) ((_ if) 1) ((_ a) 2))) (lambda (if*) (m if*))",
		"(define-syntax m (syntax-rules (else) ((_ else) 1) ((_ a) 2))) (lambda (x*) (f (m x*) x*))",
		"(define-syntax m (syntax-rules () ((_ a) (begin (define-syntax k (syntax-rules () ((_) a))) 1)))) (lambda (x*) (m x) x*)",
	)
	demandNoRenames(t,
		"(define-syntax m (syntax-rules () ((_ a) 1))) (lambda (x) (f (m x*)) x)",
		"(define-syntax m (syntax-rules () ((_ a) 1) ((_ a b) (lambda (x*) (x* a b))))) (m 1)",
		"(lambda (else*) (define-syntax m (syntax-rules (else*) ((_ else*) 1))) (m else*))",
	)
}

// What must have one text, over several names of one identifier, and over several identifiers.
func TestRenameGoesOn(t *testing.T) {
	chain := "(define-syntax m (syntax-rules () ((_ a b c d) (f (lambda (a) b) (lambda (b) c) (lambda (c) d))))) "
	star := "(define-syntax m (syntax-rules () ((_ a b ...) (f (lambda (a) b ...) (lambda (b) b) ...)))) "
	back := "(define-syntax m (syntax-rules () ((_ a) ((lambda (a) a) (lambda (a) (define (a) a) a))))) "
	pairs := "(define-syntax m (syntax-rules () ((_ a b c d e f g h) (k (lambda (a) b) (lambda (c) d) (lambda (e) f) (lambda (g) h) (lambda (b) d) (lambda (f) h) LAST)))) "
	demandRenames(t,
		strings.Replace(pairs, "LAST", "1", 1)+"(m x* x* x* x* x x x x)", strings.Replace(pairs, "LAST", "1", 1)+"(m x x x x x* x* x* x*)", strings.Replace(pairs, "LAST", "(lambda (c) e)", 1)+"(m x* x* x* x* x* x* x* x*)", strings.Replace(pairs, "LAST", "(lambda (h) a)", 1)+"(m x* x* x* x* x* x* x* x*) x",
		chain+"(m x* x* x* x*)", chain+"(lambda (x) (m x* x* x* x*) x) (lambda (y) x)", chain+"(lambda (x*) (m x x x x) x*) x", chain+"(m y* x x x)", chain+"(m x* x* x* y) (m y x x x)", chain+"(lambda (x*) (m y x* x* x*) x*)",
		star+"(m x* x*)", star+"(m x* x* x* x* x*)", star+"(m x* x* x*) x", back+"(m x*)", back+"(lambda (x) (m x*) x)", back+"(lambda (x*) (m x) x*)",
		"(define-syntax m (syntax-rules () ((_ a b c) (lambda (a b) (f a b c (lambda (b c) a b c)))))) (lambda (x*) (m y w x*) (m p q x*) x*)",
		"(define-syntax m (syntax-rules () ((_ a b) (f (lambda (a) b) (lambda (b) a))))) (m x* x*) (m x x) (lambda (x) x)",
	)
	demandNoRenames(t,
		// Of the last one the program has one, too; or it is quoted; or the name of a macro, far from the first one.
		chain+"(m y x* x y)", chain+"(m y x* x* x*) (m x x x y)", strings.Replace(pairs, "LAST", "(lambda (h) 'a)", 1)+"(m x* x* x* x* x x x x)", strings.Replace(pairs, "LAST", "(lambda (d) f 'c)", 1)+"(m x* x* x* x* x* x* x* x*)",
		"(define-syntax m (syntax-rules () ((_ a b c d) (f (lambda (a) b) (lambda (b) c) (lambda (c) d 'd))))) (m x* x* x* x*)",
		"(define-syntax m (syntax-rules () ((_ a b c d) (f (lambda (a) b) (lambda (b) c) (lambda (c) d) d)))) (m x* x* x* x*)",
		"(define-syntax m (syntax-rules () ((_ a b c d) (f (lambda (a) b) (lambda (b) c) (lambda (c) d (lambda () (define-syntax d (syntax-rules ())) 1)))))) (m x* x* x* x*)",
	)
}

// Each text that may not be given, where zz may.
func TestRenameAsksForTheText(t *testing.T) {
	text := "(define-syntax m (syntax-rules (lit) ((_ a) (in 'q)))) (define g 1) (lambda (x* y) (m x) (glob x* 'w . ()))"
	forms, all := marked(text)
	x := all[0]
	long := strings.Repeat("n", impl.ExpMaxName)
	for _, to := range []string{"zz", "x1", "+", "-", "..", "....", "__", "syntax", "syntax-rulesx", "a#", "If", "lambda*", "1+", "a.b", "!", "}", long, long[1:], "-" + long[1:], "+5", "set", "let"} {
		got, ok := demandRename(t, text, forms, x, to)
		if !ok {
			t.Errorf("%q is refused", to)
			continue
		}
		demandHygiene(t, to, impl.ExpExpand(forms), got)
	}
	for _, to := range []string{
		"", " ", "a b", "a\n", "a\tb", "(", "a)", "\"", "a\"b", "'", "'a", "~", "a~1", ".", "#", "#x", "a\x00", "a\x1f", "a\x7f", "a\x80", "\u00e9",
		"5", "-5", "007", "#t", "#f", "\"a\"", "\"\"", long + "n", strings.Repeat("1", impl.ExpMaxName+1), strings.Repeat("n", 5000),
		"begin", "define", "define-syntax", "if", "lambda", "quote", "set!", "syntax-rules", "...", "_",
		"x", "y", "m", "lit", "a", "in", "q", "g", "glob", "w",
	} {
		demandRefused(t, text, forms, to, x)
	}
}

func TestRenameAsksForNoFault(t *testing.T) {
	fine := "(lambda (x) x) "
	for code, text := range []string{0: "", 1: "()", 2: "(define-syntax m (syntax-rules ())) (m)", 3: unclearText, 4: countdown + counting("z", impl.ExpMaxSteps+1), 5: "if", 6: "(define-syntax m 1)"} {
		forms := readAll(fine + text)
		if r := impl.ExpExpand(forms); r.Fault.Code != code {
			t.Errorf("%s: %v", lastOf(text), r.Fault)
		}
		if _, ok := demandRename(t, lastOf(text), forms, 2, "zz"); ok != (code == 0) {
			t.Errorf("%s: %v", lastOf(text), ok)
		}
	}
	for _, text := range []string{"(lambda (x* x*) x*)", "(lambda (x*) (define y* x*))", "(lambda (x*) (x* (if)))", "(lambda (x*) x* . 1)"} {
		forms, all := marked(text)
		demandRefused(t, text, forms, "zz", all...)
	}
}

// unclearText has an identifier of which no binding is nearer.
const unclearText = "(define-syntax def-m (syntax-rules () ((_ m a) (begin (define x 1) (define-syntax m (syntax-rules () ((_) (begin (define a 2) x)))))))) (def-m m x) (m)"

// Each identifier must be told from all others by its From, wherever the two stand.
func TestRenameAsksForFroms(t *testing.T) {
	lambdaOf := func(kids ...impl.ExpForm) impl.ExpForm {
		return list(id("lambda", 1), list(id("x", 2)), list(append([]impl.ExpForm{id("x", 3)}, kids...)...))
	}
	for what, forms := range map[string][]impl.ExpForm{
		"its own From, again":             {list(id("lambda", 1), list(id("x", 2)), id("x", 2))},
		"the From of one of the same":     {lambdaOf(id("x", 3))},
		"the From of another one":         {lambdaOf(id("y", 2))},
		"one From of others":              {lambdaOf(id("y", 7), id("y", 7))},
		"one From of others, of others":   {lambdaOf(id("y", 7), id("w", 7))},
		"one From in another form":        {lambdaOf(), id("w", 1)},
		"one From in two other forms":     {lambdaOf(), id("w", 7), list(id("w", 7))},
		"one From that is quoted":         {lambdaOf(), list(id("quote", 8), list(id("w", 9), id("w", 9)))},
		"one From of scopes":              {lambdaOf(), id("w", 9, 50), id("w", 9, 51)},
		"the From 0":                      {lambdaOf(id("y", 0))},
		"the From 0, in another form":     {id("y", 0), lambdaOf()},
		"the From 0 of the one":           {list(id("lambda", 1), list(id("x", 0)), id("x", 3))},
		"the From 0 of a word":            {list(id("lambda", 0), list(id("x", 2)), id("x", 3))},
		"the From 0 in rules":             {lambdaOf(), list(id("define-syntax", 5), id("m", 6), list(id("syntax-rules", 7), list(), list(list(id("_", 0)), atom("1"))))},
		"the From 0 twice":                {lambdaOf(id("y", 0), id("y", 0))},
		"one From at the end of a list":   {lambdaOf(), list(id("quote", 8), dots(id("v", 9), id("w", 9)))},
		"the From 0 at the end of a list": {lambdaOf(), list(id("quote", 8), dots(id("v", 9), id("w", 0)))},
	} {
		demandRefused(t, what, forms, "zz", 0, 1, 2, 3)
	}
	great := []impl.ExpForm{list(id("lambda", 1<<62), list(id("x", 500)), list(id("x", 7), atom("2")), atom("1")), list(id("lambda", 9), list(id("x", 1<<40, 70)), id("y", 4), id("x", 3, 70))}
	for from, want := range map[int]string{500: "(lambda (zz) (zz 2) 1)\n(lambda (x) y x)\n", 7: "(lambda (zz) (zz 2) 1)\n(lambda (x) y x)\n", 1 << 40: "(lambda (x) (x 2) 1)\n(lambda (zz) y zz)\n", 3: "(lambda (x) (x 2) 1)\n(lambda (zz) y zz)\n"} {
		got, ok := demandRename(t, "great Froms", great, from, "zz")
		if !ok || showProgram(got) != want {
			t.Errorf("%d: %s %v", from, showProgram(got), ok)
		}
	}
	demandRefused(t, "great Froms", great, "zz", 0, -1, 1, 2, 9, 4, 1<<62, 1<<62-1, -1<<63, 1<<63-1)
}

// An identifier that is not there, that binds and refers to nothing, or by whose text rules are told.
func TestRenameAsksForTheIdentifier(t *testing.T) {
	for _, text := range []string{"(lambda (x) x)", "", "1 \"x\" #t"} {
		demandRefused(t, text, readAll(text), "zz", -1<<63, -1, 0, 1, 4, 5, 1<<63-1)
	}
	demandNoRenames(t,
		"x* (f* x*)", "(define* x* 1) (set!* x* x*)", "(quote* (a* b* . c*))", "(lambda* (x) (if* x 1 (begin* y*)))",
		"(define-syntax* m* (syntax-rules* (l*) ((_* a*) (lambda* (a* t*) (t* a* l*))))) (f* m2*)",
		"(define-syntax* m* (syntax-rules* () ((_* a*) 1))) (m* x*) (lambda (y) (m* x*))",
		"(define-syntax d* (syntax-rules () ((_ a*) (begin* (define* t* 1) (define a* t*))))) (d* x*)",
		"(lambda (...*) ...*)", "(lambda (_*) (_* 1))", "(lambda (syntax-rules*) syntax-rules*)", "(lambda () (define ...* 1) (define (_*) ...*) _*)", "(define (f _* . ...*) (_* ...*))",
		"(define-syntax m (syntax-rules () ((_ a) (lambda (a) (define-syntax k (a () ((_) 1))) (k))))) (m syntax-rules*)",
		"(define-syntax m (syntax-rules () ((_ a) (lambda (a) (define-syntax k (syntax-rules () ((_ b a) (f b a)))) (k 5 6))))) (m ...*)",
		"(define-syntax m (syntax-rules () ((_ a) (lambda (a) (define-syntax k (syntax-rules () ((_ a) 1))) (k 5))))) (m _*)",
	)
}

// One of those that must have one text is something else, too: each of what that can be.
func TestRenameAsksForNamesAlone(t *testing.T) {
	within := func(template string) string {
		return "(define-syntax m (syntax-rules () ((_ a) " + template + "))) (lambda (x) (m x*) x)"
	}
	of := func(template, use string) string {
		return "(define-syntax m (syntax-rules () ((_ a) " + template + "))) " + use
	}
	demandRenames(t, of("(f a (begin a))", "(lambda (x*) (m x*) x*)"), within("(f (lambda (a) a) (lambda (a) 1))"))
	demandNoRenames(t,
		of("(f a 'a)", "(lambda (x*) (m x*) x*)"), within("(f (lambda (a) a) 'a)"), within("(lambda (a) '(1 (b . a)))"), of("(f (lambda (a) a) '(b a))", "(m x*)"), // quoted
		within("(begin (define-syntax k (syntax-rules (a))) (lambda (a) a))"),                                                        // a literal
		within("(begin (define-syntax k (syntax-rules () ((_ a) 1))) (lambda (a) a))"),                                               // of a pattern
		within("(lambda (a) (define-syntax k (syntax-rules () ((_ b . a) 1))) (k 5))"),                                               // the end of a pattern
		"(define-syntax m (syntax-rules () ((_ a b) (lambda (a) (define-syntax k (syntax-rules () ((_ a) (b)))) (k 5))))) (m x* x*)", // in a template the same as a name
		within("(lambda (a) (define-syntax k (syntax-rules (a) ((_ a) 1))) (k a))"),                                                  // compared, as a literal
		within("(f (lambda (a) a) (lambda () (define-syntax a (syntax-rules ())) 1))"),                                               // a macro of a body
		of("(begin (define-syntax a (syntax-rules ())) (lambda (a) a))", "(m x*)"),                                                   // a macro of the program
		of("((lambda (a) a) a)", "(m x*)"), of("(f (lambda (a) a) (set! a 1))", "(m x*)"),                                            // a variable of the whole program
		of("(begin (define a 1) (lambda (a) a))", "(m x*)"), of("(begin (define (a) 1) (lambda (a) a))", "(m x*)"), // defined by the program
		of("(f (lambda (a) a) (a 1 2))", "(m if*)"), of("(begin (a y 1) (lambda (a) a))", "(m define*)"), // the first of what is given
		of("(begin (a y (syntax-rules ())) (lambda (a) a))", "(m define-syntax*)"), of("(begin (a 1) (lambda (a) a))", "(m begin*)"),
		of("(f (lambda (a) a) (a 1))", "(define-syntax k (syntax-rules () ((_ b) b))) (m k*)"),                   // the first of a use
		of("(f (lambda (a) a) (k a))", "(define-syntax k (syntax-rules (else) ((_ else) 1) ((_ b) 2))) (m x*)"),  // compared, and of the program
		of("(f (lambda (a) a) (k a))", "(define-syntax k (syntax-rules (if) ((_ if) 1))) (m if*)"),               // compared, and given
		of("(f (lambda (a) a) (k a))", "(define-syntax k (syntax-rules (m) ((_ m) 1) ((_ b) 2))) (m k*)"),        // compared, and a macro
		of("(f (lambda (a) (define-syntax k (syntax-rules () ((_ b) (a b)))) (k 1)) (lambda (if) a))", "(m x*)"), // once within, once of the program
	)
}

func TestRenameAsksForForms(t *testing.T) {
	fine := read("(lambda (x) x)")
	for what, f := range someNotOk() {
		for _, forms := range [][]impl.ExpForm{{f}, {fine, f}, {f, fine}, {list(fine, f)}} {
			if got, ok := impl.ExpRename(forms, 2, "zz"); ok || len(got) != 0 {
				t.Errorf("%s: %v %v", what, got, ok)
			}
		}
	}
	for _, forms := range [][]impl.ExpForm{nil, {}} {
		demandRefused(t, "nothing", forms, "zz", -1, 0, 1)
	}
}

// The scopes and all else of forms stay as they are.
func TestRenameLeavesScopes(t *testing.T) {
	forms := []impl.ExpForm{list(id("lambda", 5), dots(id("x", 6, 90), id("y", 7)), list(id("x", 8, 0, 90, 95), atom("1"), id("x", 9)), id("x", 10, 90))}
	want := []impl.ExpForm{list(id("lambda", 5), dots(id("zz", 6, 90), id("y", 7)), list(id("zz", 8, 0, 90, 95), atom("1"), id("x", 9)), id("zz", 10, 90))}
	for _, from := range []int{6, 8, 10} {
		if got, ok := demandRename(t, "scopes", forms, from, "zz"); !ok || !sameForms(got, want) {
			t.Errorf("%d: %v %v", from, got, ok)
		}
	}
	demandRefused(t, "scopes", forms, "zz", 5, 9)
}

func TestRenameLimits(t *testing.T) {
	fine := readAll("(lambda (x) x)")
	for many, want := range map[int]bool{impl.ExpMaxForms - 5: true, impl.ExpMaxForms - 4: false} {
		forms := append([]impl.ExpForm{}, fine...)
		for range many {
			forms = append(forms, atom("1"))
		}
		if _, ok := demandRename(t, "forms", forms, 2, "zz"); ok != want {
			t.Errorf("%d forms: %v", many+5, ok)
		}
	}
	most, more := strings.Repeat("n", impl.ExpMaxName), strings.Repeat("n", impl.ExpMaxName+1)
	got, ok := demandRename(t, "name", fine, 2, most)
	if !ok || showProgram(got) != lines("(lambda ("+most+") "+most+")") {
		t.Errorf("%v %v", got, ok)
	}
	demandRefused(t, "name", fine, more, 2, 3)
	demandRenames(t, strings.Repeat("(lambda () ", impl.ExpMaxDeep-2)+"(lambda (x*) x*)"+strings.Repeat(")", impl.ExpMaxDeep-2))
}

// The forms of an answer stand in the order of those handed in, however many there are.
func TestRenameKeepsTheOrder(t *testing.T) {
	text, want := "", ""
	for i := range 200 {
		text += "(lambda (x) (x " + strconv.Itoa(i) + "))"
		want += "(lambda (x) (x " + strconv.Itoa(i) + "))\n"
	}
	forms := readAll(text)
	for _, at := range []int{0, 1, 57, 198, 199} {
		line := "(lambda (x) (x " + strconv.Itoa(at) + "))\n"
		got, ok := demandRename(t, "many", forms, 3*at+2, "zz")
		if !ok || showProgram(got) != strings.Replace(want, line, strings.ReplaceAll(line, "x", "zz"), 1) {
			t.Errorf("%d: %v", at, ok)
		}
	}
}

func TestRenameLeavesWhatIsHandedIn(t *testing.T) {
	for _, c := range []struct {
		forms []impl.ExpForm
		from  int
		to    string
	}{
		{readAll("(lambda (x . r) (define y x) (f '(a . b) r x) '()) (g (h)) k 1"), 2, "zz"},
		{readAll("(lambda (x . r) (define y x) (f '(a . b) r x) '()) (g (h)) k 1"), 2, "k"},
		{readAll("(lambda (x . r) 'x) (if)"), 2, "zz"},
		{[]impl.ExpForm{list(id("lambda", 1, 60, 61), list(id("x", 2, 70)), id("x", 3, 70, 71)), id("y", 4, 8, 9)}, 3, "zz"},
		{[]impl.ExpForm{list(id("lambda", 1), list(id("x", 2)), id("x", 3)), id("y", 4, 9, 8)}, 3, "zz"},
	} {
		room := roomyForms(c.forms)
		got, ok := impl.ExpRename(room, c.from, c.to)
		if !staysRoomyForms(room, c.forms) {
			t.Errorf("%s: what was handed in was changed", showProgram(c.forms))
		}
		demandOwnBlocks(t, showProgram(c.forms), blocksOf(got), blocksOf(room))
		again, okAgain := impl.ExpRename(room, c.from, c.to)
		if ok != okAgain || !sameForms(got, again) {
			t.Errorf("%s: not the same again", showProgram(c.forms))
		}
		demandOwnBlocks(t, showProgram(c.forms), blocksOf(again), append(blocksOf(room), blocksOf(got)...))
	}
}

// No answer hangs on how goroutines run, and none is left when a call has answered.
func TestRenameHangsOnNothingElse(t *testing.T) {
	forms := readAll(strings.Repeat("(lambda (x) (x y)) ", 60))
	want, ok := wantRename(forms, 6, "zz")
	if !ok {
		t.Fatal("refused")
	}
	before := runtime.NumGoroutine()
	for _, threads := range []int{1, 2, 8} {
		was := runtime.GOMAXPROCS(threads)
		var calls sync.WaitGroup
		for range 20 {
			calls.Go(func() {
				for range 5 {
					if got, ok := impl.ExpRename(forms, 6, "zz"); !ok || !sameForms(got, want) {
						t.Errorf("%d threads: %v %s", threads, ok, showProgram(got))
					}
				}
			})
		}
		calls.Wait()
		runtime.GOMAXPROCS(was)
	}
	for wait := time.Millisecond; runtime.NumGoroutine() > before && wait < time.Second; wait *= 2 {
		time.Sleep(wait)
	}
	if after := runtime.NumGoroutine(); after > before {
		t.Errorf("%d goroutines, then %d", before, after)
	}
}

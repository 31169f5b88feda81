package tests

import (
	"testing"

	"loop.example/siskin/impl"
)

const exampleText = `
(define-syntax let (syntax-rules () ((_ ((n v) ...) b c ...) ((lambda (n ...) b c ...) v ...))))
(define-syntax or (syntax-rules () ((_) #f) ((_ a) a) ((_ a b ...) (let ((t a)) (if t t (or b ...))))))
(define x 1)
(define-syntax const (syntax-rules () ((_ id) (lambda (id) x))))
(const x)
(let ((t 5)) (or #f t))
(let ((if list)) (or 1 (if 1 2)))
(define-syntax two (syntax-rules () ((_ n) (begin (define t 1) (define n t)))))
(two y)
(lambda (x . r) (define y x) (define-syntax m (syntax-rules () ((_ z) (list z x)))) (m y) '(x . r))
`

func TestExpandExample(t *testing.T) {
	demandExpands(t, []expandCase{{exampleText, lines(
		"(define x 1)",
		"(lambda (x~4) x)",
		"((lambda (t~5) ((lambda (t~6) (if t~6 t~6 t~5)) #f)) 5)",
		"((lambda (if~7) ((lambda (t~8) (if t~8 t~8 (if~7 1 2))) 1)) list)",
		"(define t~g10 1)",
		"(define y t~g10)",
		"(lambda (x~11 . r~12) (rec (y~13) x~11 (begin (list y~13 x~11) '(x . r))))",
	)}})
}

func TestExpandTellsWhole(t *testing.T) {
	r := impl.ExpExpand(readAll("(define f (lambda (a . b) (define (g) a) (set! a 1) (if b (g) 'b)))"))
	want := impl.ExpResult{
		Cores: cores(define("f", lambda(names("a~1", "b~2"), true,
			rec(names("g~3"), lambda(nil, false, ref("a~1")), begin(set("a~1", konst("1")), ifOf(ref("b~2"), call(ref("g~3")), konst("'b"))))))),
		Roles: []impl.ExpRole{{From: 1, Kind: 4}, {From: 2, Kind: 4}, {From: 3, Kind: 4}, {From: 4, Kind: 1, Name: "a~1"}, {From: 5, Kind: 1, Name: "b~2"},
			{From: 6, Kind: 4}, {From: 7, Kind: 1, Name: "g~3"}, {From: 8, Kind: 2, Name: "a~1"}, {From: 9, Kind: 4}, {From: 10, Kind: 2, Name: "a~1"},
			{From: 11, Kind: 4}, {From: 12, Kind: 2, Name: "b~2"}, {From: 13, Kind: 2, Name: "g~3"}, {From: 14, Kind: 4}, {From: 15, Kind: 3}},
	}
	if !sameResult(r, want) {
		t.Errorf("%v", r)
	}
}

func TestExpandOfNothing(t *testing.T) {
	for _, forms := range [][]impl.ExpForm{nil, {}, readAll("(begin)"), readAll("(begin (begin) (begin (begin)))"), readAll("(define-syntax m (syntax-rules () ((_) (begin)))) (m) (begin (m) (m))")} {
		if r := demandExpand(t, showProgram(forms), forms); len(r.Cores) != 0 || r.Fault.Code != 0 {
			t.Errorf("%v", r)
		}
	}
}

func TestExpandEachForm(t *testing.T) {
	demandExpands(t, []expandCase{
		{"x", lines("x")}, {"1", lines("1")}, {"-20", lines("-20")}, {"#t", lines("#t")}, {"\"a (b\"", lines("\"a (b\"")},
		{"'x", lines("'x")}, {"'1", lines("1")}, {"'#f", lines("#f")}, {"'\"s\"", lines("\"s\"")}, {"'()", lines("'()")}, {"'(a . 1)", lines("'(a . 1)")}, {"''a", lines("'(quote a)")}, {"(quote (if 1 (2 \"x\")))", lines("'(if 1 (2 \"x\"))")}, {"'if", lines("'if")}, {"'...", lines("'...")},
		{"(if 1 2)", lines("(if 1 2)")}, {"(if a (if b 1) c)", lines("(if a (if b 1) c)")},
		{"(f (begin 1))", lines("(f (begin 1))")}, {"(f (begin a b (begin c)))", lines("(f (begin a b (begin c)))")}, {"(begin 1 2)", lines("1", "2")}, {"(begin 1 (begin (begin a) b) (f (begin c)))", lines("1", "a", "b", "(f (begin c))")},
		{"(set! x 1)", lines("(set! x 1)")}, {"(set! x (set! y x))", lines("(set! x (set! y x))")}, {"(lambda (x) (set! x x))", lines("(lambda (x~1) (set! x~1 x~1))")},
		{"(lambda () 1)", lines("(lambda () 1)")}, {"(lambda x x)", lines("(lambda (. x~1) x~1)")}, {"(lambda (a b) b)", lines("(lambda (a~1 b~2) b~2)")}, {"(lambda (a . b) (a b c))", lines("(lambda (a~1 . b~2) (a~1 b~2 c))")}, {"(lambda (x) (lambda (x) x) x)", lines("(lambda (x~1) (begin (lambda (x~2) x~2) x~1))")}, {"(lambda (if) (if 1 2 3 4))", lines("(lambda (if~1) (if~1 1 2 3 4))")}, {"(lambda (lambda) (lambda (x) x))", lines("(lambda (lambda~1) (lambda~1 (x) x))")}, {"(lambda (quote) 'x)", lines("(lambda (quote~1) (quote~1 x))")}, {"(lambda (_ ...) (_ ...))", lines("(lambda (_~1 ...~2) (_~1 ...~2))")},
		{"(f)", lines("(f)")}, {"(f x 1)", lines("(f x 1)")}, {"((f) 'x)", lines("((f) 'x)")}, {"(1 2)", lines("(1 2)")}, {"(\"s\")", lines("(\"s\")")}, {"((lambda (x) x) 5)", lines("((lambda (x~1) x~1) 5)")}, {"(((f)))", lines("(((f)))")}, {"(syntax-rules a)", lines("(syntax-rules a)")}, {"(... _)", lines("(... _)")},
	})
}

func TestExpandBodies(t *testing.T) {
	demandExpands(t, []expandCase{
		{"(lambda () (define x 1) x)", lines("(lambda () (rec (x~1) 1 x~1))")},
		{"(lambda () (define x 1) x x)", lines("(lambda () (rec (x~1) 1 (begin x~1 x~1)))")},
		{"(lambda (x) (define x x) x)", lines("(lambda (x~1) (rec (x~2) x~2 x~2))")},
		{"(lambda () (define x y) (define y x) 1 2)", lines("(lambda () (rec (x~1 y~2) y~2 x~1 (begin 1 2)))")},
		{"(lambda () (define x 1) (define x x) x)", lines("(lambda () (rec (x~1 x~2) 1 x~2 x~2))")},
		{"(lambda () (define (f x) (f x)) (f 1))", lines("(lambda () (rec (f~1) (lambda (x~2) (f~1 x~2)) (f~1 1)))")},
		{"(lambda () (define (f) 1) f)", lines("(lambda () (rec (f~1) (lambda () 1) f~1))")},
		{"(lambda () (define (f . r) r f) f)", lines("(lambda () (rec (f~1) (lambda (. r~2) (begin r~2 f~1)) f~1))")},
		{"(lambda () (define (f a . r) (define r a) r) f)", lines("(lambda () (rec (f~1) (lambda (a~2 . r~3) (rec (r~4) a~2 r~4)) f~1))")},
		{"(lambda () (define (f f) f) f)", lines("(lambda () (rec (f~1) (lambda (f~2) f~2) f~1))")},
		{"(lambda () (define-syntax m (syntax-rules () ((_) 5))) (m))", lines("(lambda () 5)")},
		{"(lambda () (define-syntax m (syntax-rules () ((_) 5))) (m) (m))", lines("(lambda () (begin 5 5))")},
		{"(lambda () (define x (m)) (define-syntax m (syntax-rules () ((_) (lambda (a) a)))) x)", lines("(lambda () (rec (x~1) (lambda (a~3) a~3) x~1))")},
		{"(lambda () (begin) (begin (define x 1) (begin (define y 2)) (begin)) (begin x y) (begin x))", lines("(lambda () (rec (x~1 y~2) 1 2 (begin x~1 y~2 (begin x~1))))")},
		{"(lambda () (begin 1 2) 3)", lines("(lambda () (begin 1 2 3))")},
		{"(lambda () (begin (begin) (begin 1)))", lines("(lambda () 1)")},
		{"(lambda () (define if list) (if 1 2 3 4))", lines("(lambda () (rec (if~1) list (if~1 1 2 3 4)))")},
		{"(lambda () (define define 1) (define x 2))", lines("(lambda () (rec (define~1) 1 (define~1 x 2)))")},
		{"(lambda () (define begin f) (begin) 1)", lines("(lambda () (rec (begin~1) f (begin (begin~1) 1)))")},
		{"(lambda () (define-syntax define (syntax-rules () ((_ a b) (set! a b)))) (define x 2))", lines("(lambda () (set! x 2))")},
		{"(define-syntax d (syntax-rules () ((_ a b) (define a b)))) (lambda () (d x 1) (d (f y) (x y)) (f x))", lines("(lambda () (rec (x~2 f~3) 1 (lambda (y~4) (x~2 y~4)) (f~3 x~2)))")},
		{"(define-syntax d (syntax-rules () ((_ a) (begin (define x 1) (define a x))))) (lambda () (d x) (d y) (x y))", lines("(lambda () (rec (x~2 x~3 x~4 y~5) 1 x~2 1 x~4 (x~3 y~5)))")},
		{"(define-syntax v (syntax-rules () ((_ a) (begin (define x 1) a x)))) (lambda (x) (v x))", lines("(lambda (x~2) (rec (x~3) 1 (begin x~2 x~3)))")},
		{"(define-syntax none (syntax-rules () ((_) (begin)))) (lambda () (none) (none) 1)", lines("(lambda () 1)")},
		{"(define-syntax m (syntax-rules () ((_) m2))) (lambda () (define-syntax m2 (syntax-rules () ((_) 1))) (m))", lines("(lambda () m2)")},
		{"(lambda (x) (define-syntax m (syntax-rules () ((_) x))) (lambda (x) (define (x) (m)) (m)))", lines("(lambda (x~1) (lambda (x~3) (rec (x~4) (lambda () x~1) x~1)))")},
	})
}

func TestExpandProgramDefinitions(t *testing.T) {
	demandExpands(t, []expandCase{
		{"(define x 1) x", lines("(define x 1)", "x")},
		{"(define x x)", lines("(define x x)")},
		{"(define x 1) (define x 2)", lines("(define x 1)", "(define x 2)")},
		{"(define (f x) (f x))", lines("(define f (lambda (x~1) (f x~1)))")},
		{"(define (f . r) 1 r)", lines("(define f (lambda (. r~1) (begin 1 r~1)))")},
		{"(define (f a b . r) r)", lines("(define f (lambda (a~1 b~2 . r~3) r~3))")},
		{"(define if 1) if (if 1)", lines("(define if 1)", "if", "(if 1)")},
		{"(define define 1) (define x 2)", lines("(define define 1)", "(define x 2)")},
		{"(define (if a) (if a)) (if 1 2 3 4)", lines("(define if (lambda (a~1) (if a~1)))", "(if 1 2 3 4)")},
		{"1 (define x 1) 2 (define y x)", lines("1", "(define x 1)", "2", "(define y x)")},
		{"(begin (define x 1) x (begin (define y 2)))", lines("(define x 1)", "x", "(define y 2)")},
		{"(define-syntax m (syntax-rules () ((_) 1))) (define m 2) m (m)", lines("(define m 2)", "m", "(m)")},
		{"(define m 2) (define-syntax m (syntax-rules () ((_) 1))) (m) (define m 3) m", lines("(define m 2)", "1", "(define m 3)", "m")},
		{"(define-syntax d (syntax-rules () ((_) (define t 1)))) (d) (d) t", lines("(define t~g2 1)", "(define t~g3 1)", "t")},
		{"(define-syntax d (syntax-rules () ((_ a) (begin (define t a) (define t (f t)) t)))) (define t 0) (d t) t", lines("(define t 0)", "(define t~g2 t)", "(define t~g2 (f t~g2))", "t~g2", "t")},
		{"(define-syntax d (syntax-rules () ((_) (begin (define t 1) (define-syntax t (syntax-rules () ((_) 5))) (define u (t)) (define t t))))) (d)", lines("(define t~g2 1)", "(define u~g4 5)", "(define t~g2 t~g2)")},
		{"(define-syntax d (syntax-rules () ((_ (f a)) (define (f a x) (f a x t))))) (d (g x))", lines("(define g (lambda (x~2 x~3) (g x~2 x~3 t)))")},
		{"(define-syntax d (syntax-rules () ((_ a) (define a 1)))) (define-syntax e (syntax-rules () ((_ a) (d a)))) (e x) x", lines("(define x 1)", "x")},
		{"(define-syntax d (syntax-rules () ((_ m) (define-syntax m (syntax-rules () ((_ a) (a x))))))) (d n) (lambda (x) (n x))", lines("(lambda (x~3) (x~3 x))")},
	})
}

// A definition loses the scopes of the uses that were opened in its own body, and no others.
func TestExpandWhichScopesADefinitionLoses(t *testing.T) {
	keeps := "(define-syntax k (syntax-rules () ((_ m a) (define-syntax m (syntax-rules () ((_ b) (begin (define a 1) (b a)))))))) "
	demandExpands(t, []expandCase{
		{"(define-syntax d (syntax-rules () ((_ a) (define a 1)))) (lambda () (d x) x)", lines("(lambda () (rec (x~2) 1 x~2))")},
		{"(define-syntax d (syntax-rules () ((_ a) (define a 1)))) (lambda (x) (lambda () (d x) x))", lines("(lambda (x~2) (lambda () (rec (x~3) 1 x~3)))")},
		{"(define-syntax w (syntax-rules () ((_ a) (lambda () (define a 1) a x)))) (w x)", lines("(lambda () (rec (x~2) 1 (begin x~2 x)))")},
		{"(define-syntax d (syntax-rules () ((_ a) (define-syntax a (syntax-rules () ((_) 7)))))) (lambda () (d m) (m))", lines("(lambda () 7)")},
		{"(define-syntax d (syntax-rules () ((_ a b) (begin (define a 1) b)))) (lambda () (d x (d y (x y))))", lines("(lambda () (rec (x~2 y~3) 1 1 (x~2 y~3)))")},
		{keeps + "(k m x) (m f) x", lines("(define x~g3 1)", "(f x~g3)", "x")},
		{keeps + "(lambda () (k m x) (m f))", lines("(lambda () (rec (x~3) 1 (f x~3)))")},
	})
}

// The example of identifiers of which no binding is nearer: the second definition loses the scope of the use that has handed its name in.
func TestExpandUnclear(t *testing.T) {
	text := "(define-syntax def-m (syntax-rules () ((_ m a) (begin (define x 1) (define-syntax m (syntax-rules () ((_) (begin (define a 2) x)))))))) (def-m m x) (m)"
	demandFaults(t, []faultCase{{text, 3, "x"}, {"(lambda () " + text + ")", 3, "x"}})
}

func TestExpandUses(t *testing.T) {
	demandExpands(t, []expandCase{
		{"(define-syntax m (syntax-rules () ((_ . r) 'r))) (m . x) (m) (m a . 1) (f (m b))", lines("'x", "'()", "'(a . 1)", "(f '(b))")},
		{"(define-syntax m (syntax-rules () ((_) x) ((_ a) (m)))) (f (m 1))", lines("(f x)")},
		{"(define-syntax m (syntax-rules () ((_ a) (lambda (x) (a x))))) (lambda (x) (f (m x)))", lines("(lambda (x~2) (f (lambda (x~3) (x~2 x~3))))")},
		{"(define-syntax swap (syntax-rules () ((_ a b) ((lambda (t) (set! a b) (set! b t)) a)))) (lambda (t u) (swap t u))", lines("(lambda (t~2 u~3) ((lambda (t~4) (begin (set! t~2 u~3) (set! u~3 t~4))) t~2))")},
		{"(define-syntax m (syntax-rules () ((_ a) (if a 1 2)))) (lambda (if) (m if))", lines("(lambda (if~2) (if if~2 1 2))")},
		{"(define-syntax m (syntax-rules (else) ((_ else) 1) ((_ a) 2))) (m else) (m other) (lambda (else) (m else) (f (m else)))", lines("1", "2", "(lambda (else~2) (begin 2 (f 2)))")},
		{"(lambda (else) (define-syntax m (syntax-rules (else) ((_ else) 1) ((_ a) 2))) (f (m else) (lambda (else) (f (m else)))))", lines("(lambda (else~1) (f 1 (lambda (else~3) (f 2))))")},
		{"(define else 1) (define-syntax m (syntax-rules (else) ((_ else) 1) ((_ a) 2))) (m else)", lines("(define else 1)", "1")},
		{"(define-syntax m (syntax-rules (else) ((_ else) 1) ((_ a) 2))) (define else 1) (m else)", lines("(define else 1)", "1")},
		{"(define-syntax m (syntax-rules (if) ((_ if) 1) ((_ a) 2))) (m if) (m begin) (lambda (if) (m if)) (define if 3) (m if)", lines("1", "2", "(lambda (if~2) 2)", "(define if 3)", "1")},
		{"(define-syntax m (syntax-rules () ((_) (... ...)))) (lambda (...) (m))", lines("(lambda (...~2) ...)")},
		{"(define-syntax my (syntax-rules () ((_ m) (define-syntax m (syntax-rules () ((_ a (... ...)) '(a (... ...)))))))) (my n) (n 1 2)", lines("'(1 2)")},
		{"(define-syntax m (syntax-rules () ((_) if))) ((m) 1)", "fault 5 at if\n"},
		{"(define-syntax m (syntax-rules () ((_) (if)))) (define-syntax n (syntax-rules () ((_ a) (a 1 2)))) (n if) (n m)", "fault 2 at m\n"},
	})
}

// Scopes that are handed in tell which ones are new: the use's and the macro's, a procedure's and its inside, in the order in which they are needed.
func TestExpandNewScopes(t *testing.T) {
	x := func(scopes ...int) impl.ExpForm { return id("x", 7, scopes...) }
	word := func(text string) impl.ExpForm { return id(text, 1) }
	syntax := func(rules string) impl.ExpForm { return list(word("define-syntax"), word("m"), read(rules)) }
	ones := []impl.ExpForm{x(), x(1), x(2), x(3), x(4), x(5), x(0, 6), x(1, 2), x(1, 3), x(2, 3), x(3, 4), x(4, 5), x(5, 6)}
	tail := append([]impl.ExpForm{word("f")}, ones...)
	for _, c := range []struct {
		forms []impl.ExpForm
		want  string
	}{
		{[]impl.ExpForm{list(word("lambda"), list(x()), atom("1")), list(tail...)}, lines("(lambda (x~1) 1)", "(f x x~1 x x x x x x~1 x~1 x x x x)")},
		{[]impl.ExpForm{list(word("lambda"), list(), list(word("define"), x(), atom("1")), atom("2")), list(tail...)}, lines("(lambda () (rec (x~1) 1 2))", "(f x x x x x x x x~1 x x x x x)")},
		{[]impl.ExpForm{list(word("lambda"), list(word("y")), list(word("lambda"), list(x(1, 2)), atom("1"))), list(tail...)}, lines("(lambda (y~1) (lambda (x~2) 1))", "(f x x x x x x x x x x x x x)")},
		{[]impl.ExpForm{syntax("(syntax-rules () ((_) (define x 1)))"), list(word("m")), list(tail...)}, lines("(define x~g2 1)", "(f x x x~g2 x x x x x~g2 x x~g2 x x x)")},
		{[]impl.ExpForm{syntax("(syntax-rules () ((_ a) (lambda (a) 1)))"), list(word("m"), x()), list(tail...)}, lines("(lambda (x~2) 1)", "(f x x x x x x x x x~2 x x x x)")},
		{[]impl.ExpForm{syntax("(syntax-rules () ((_) (lambda (x) 1)))"), list(word("m")), list(tail...)}, lines("(lambda (x~2) 1)", "(f x x x x x x x x x x~2 x x x)")},
		{[]impl.ExpForm{syntax("(syntax-rules () ((_) 1))"), list(word("m")), list(word("m")), list(word("lambda"), x(), atom("1")), list(tail...)}, lines("1", "1", "(lambda (. x~2) 1)", "(f x x x x x x~2 x x x x x x~2 x~2)")},
	} {
		if got := shown(demandExpand(t, showProgram(c.forms), c.forms)); got != c.want {
			t.Errorf("%s:\n%sand not\n%s", showProgram(c.forms), got, c.want)
		}
	}
}

func TestExpandDefinitionsWithScopes(t *testing.T) {
	def := func(at impl.ExpForm, value string) impl.ExpForm { return list(id("define", 1), at, atom(value)) }
	for _, c := range []struct {
		forms []impl.ExpForm
		want  string
	}{
		{[]impl.ExpForm{def(id("x", 2), "1"), def(id("x", 3, 0), "2"), id("x", 4, 0)}, lines("(define x 1)", "(define x 2)", "x")},
		{[]impl.ExpForm{def(id("x", 2, 9), "1"), def(id("x", 3, 0, 9), "2"), id("x", 4), id("x", 4, 9), id("x", 4, 8, 9)}, lines("(define x~g1 1)", "(define x~g1 2)", "x", "x~g1", "x~g1")},
		{[]impl.ExpForm{def(id("x", 2, 9), "1"), def(id("x", 3, 8, 9), "2"), def(id("x", 3), "3"), id("x", 4, 8), id("x", 4, 9), id("x", 4, 8, 9)}, lines("(define x~g1 1)", "(define x~g2 2)", "(define x 3)", "x", "x~g1", "x~g2")},
		{[]impl.ExpForm{def(id("x", 2, 9), "1"), def(id("y", 2, 9), "2"), def(id("x", 2, 9), "3"), id("x", 4, 9), id("y", 4, 9)}, lines("(define x~g1 1)", "(define y~g2 2)", "(define x~g1 3)", "x~g1", "y~g2")},
		{[]impl.ExpForm{def(id("x", 2, 8), "1"), def(id("x", 2, 9), "2"), id("x", 4, 8, 9)}, "fault 3 at x\n"},
		{[]impl.ExpForm{def(id("if", 2, 9), "1"), list(id("if", 3, 9), atom("5")), list(id("if", 3), atom("5"), atom("6"))}, lines("(define if~g1 1)", "(if~g1 5)", "(if 5 6)")},
	} {
		if got := shown(demandExpand(t, showProgram(c.forms), c.forms)); got != c.want {
			t.Errorf("%s:\n%sand not\n%s", showProgram(c.forms), got, c.want)
		}
	}
}

func TestExpandLeavesWhatIsHandedIn(t *testing.T) {
	for _, forms := range [][]impl.ExpForm{readAll(exampleText), readAll("(lambda (a) (define (f . b) b) 'a a)"), {list(id("f", 1, 2), id("x", 2, 0), dots(id("y", 1, 5), id("z", 1, 7)))}} {
		room := roomyForms(forms)
		r := impl.ExpExpand(room)
		if !staysRoomyForms(room, forms) {
			t.Errorf("%s: what was handed in was changed", showProgram(forms))
		}
		demandOwnBlocks(t, showProgram(forms), append(blockOf(r.Roles), blocksOfCores(r.Cores)...), blocksOf(room))
		if again := impl.ExpExpand(room); !sameResult(r, again) {
			t.Errorf("%s: not the same again", showProgram(forms))
		}
	}
}

func blocksOfCores(all []impl.ExpCore) []block {
	blocks := blockOf(all)
	for _, c := range all {
		blocks = append(append(blocks, blockOf(c.Names)...), blocksOfCores(c.Kids)...)
	}
	return blocks
}

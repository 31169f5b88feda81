package tests

import (
	"testing"

	"loop.example/siskin/impl"
)

// roleCase is a text and its roles, as rolesShown tells them.
type roleCase struct {
	text string
	want string
}

func demandRoles(t *testing.T, cases []roleCase) {
	t.Helper()
	for _, c := range cases {
		r := demandExpand(t, c.text, readAll(c.text))
		if got := rolesShown(r.Roles); got != c.want || r.Fault.Code != 0 {
			t.Errorf("%s: %v\n%s\nand not\n%s", c.text, r.Fault, got, c.want)
		}
	}
}

func TestExpandRolesOfForms(t *testing.T) {
	demandRoles(t, []roleCase{
		{"", ""}, {"1", ""}, {"x", "1o"}, {"(1 2)", ""}, {"(f x (g x))", "1o 2o 3o 4o"}, {"(if a (b) 1)", "1o 2o 3o"}, {"(set! x y)", "1o 2o 3o"},
		{"'(a (b . c) 1 if ...)", "1o 2q 3q 4q 5q 6q"}, {"''a", "1o 2q 3q"}, {"'1", "1o"},
		{"(begin x (begin) (begin y))", "1o 2o 3o 4o 5o"}, {"(f (begin x (begin y)))", "1o 2o 3o 4o 5o"},
		{"(lambda (a . b) (set! b a) 'a)", "1o 2b:a~1 3b:b~2 4o 5r:b~2 6r:a~1 7o 8q"}, {"(lambda a (lambda (a) a) a)", "1o 2b:a~1 3o 4b:a~2 5r:a~2 6r:a~1"}, {"(lambda () x)", "1o 2o"}, {"((lambda (x) x) x)", "1o 2b:x~1 3r:x~1 4o"}, {"(lambda (if) (if if))", "1o 2b:if~1 3r:if~1 4r:if~1"},
		{"(define x x)", "1o 2o 3o"}, {"(define (f a . b) (f a b))", "1o 2o 3b:a~1 4b:b~2 5o 6r:a~1 7r:b~2"}, {"(define x 1) (define x 2) x", "1o 2o 3o 4o 5o"},
		{"(lambda () (define x y) x)", "1o 2o 3b:x~1 4o 5r:x~1"}, {"(lambda () (define (f a) (define b a) b) (define c f) (f c))", "1o 2o 3b:f~1 9o 10b:c~2 4b:a~3 5o 6b:b~4 7r:a~3 8r:b~4 11r:f~1 12r:f~1 13r:c~2"},
		{"(lambda () (begin (define x y) (begin)) x)", "1o 2o 3o 4b:x~1 6o 5o 7r:x~1"}, {"(lambda () x (begin y))", "1o 2o 3o 4o"}, {"(lambda () (begin x (begin y)) (begin z))", "1o 2o 3o 4o 5o 6o 7o"},
	})
}

func TestExpandRolesOfRules(t *testing.T) {
	demandRoles(t, []roleCase{
		{"(define-syntax m (syntax-rules ()))", "1o 2o"}, {"(define-syntax m (syntax-rules (else => else)))", "1o 2o 4o 5o 6o"},
		{"(define-syntax m (syntax-rules () ((_) m)))", "1o 2o"}, {"(define-syntax m (syntax-rules () ((m) m)))", "1o 2o"}, {"(define-syntax m (syntax-rules () ((m m) m)))", "1o 2o 5o 6o"},
		{"(define-syntax m (syntax-rules (else) ((_ a (b ...) . else) (a else x b ... _ _ (... ...) a)) ((m c) (m . c))))", "1o 2o 4o 6o 7o 9o 10o 13o 19o 21o 23o"},
		{"(define-syntax m (syntax-rules () ((_ a ...) '(if (a) ... b . a))))", "1o 2o 5o 9o 12o"},
		{"(lambda (x) (define-syntax m (syntax-rules (x) ((_ y x) (x y)))) x)", "1o 2b:x~1 3o 4o 6o 8o 9o 11o 12r:x~1"},
		{"(lambda () (define y 1) (define-syntax m (syntax-rules ())) (define z y) z)", "1o 2o 3b:y~1 4o 5o 7o 8b:z~3 9r:y~1 10r:z~3"},
	})
}

func TestExpandRolesOfUses(t *testing.T) {
	demandRoles(t, []roleCase{
		{"(define-syntax m (syntax-rules () ((_ a) (f a a)))) (lambda (x) (m x))", "1o 2o 5o 7o 8o 9o 10b:x~2 11o 6o 12r:x~2 12r:x~2"},
		{"(define-syntax m (syntax-rules () ((_ a) (f a a)))) (f (m x))", "1o 2o 5o 7o 8o 9o 10o 6o 11o 11o"},
		{"(define-syntax m (syntax-rules () ((_ . a) 'a))) (m . x)", "1o 2o 5o 7o 8o 6o 9q"},
		{"(define-syntax m (syntax-rules () ((_ a) (lambda (t a) (t a))))) (m t)", "1o 2o 5o 8o 10o 11o 6o 7b:t~2 12b:t~3 9r:t~2 12r:t~3"},
		{"(define-syntax d (syntax-rules () ((_ a) (begin (define t 1) (define a t))))) (d x)", "1o 2o 5o 10o 12o 6o 7o 8o 9o 13o 11o"},
		{"(define-syntax d (syntax-rules () ((_ a) (begin (define t 1) (define a t))))) (lambda () (d x) (x t))", "1o 2o 5o 10o 12o 13o 6o 7o 8b:t~2 9o 14b:x~3 11r:t~2 15r:x~3 16o"},
		{"(define-syntax d (syntax-rules () ((_ m) (define-syntax m (syntax-rules () ((_ a) 'a)))))) (d n) (n 1)", "1o 2o 5o 7o 13o 6o 14o 10o 12o 15o 11o"},
		{"(define-syntax a (syntax-rules () ((_ x) (b x)))) (define-syntax b (syntax-rules () ((_ x) x))) (a y)", "1o 2o 5o 7o 8o 9o 12o 13o 14o 6o 15o"},
	})
}

func TestExpandRolesOfCompared(t *testing.T) {
	demandRoles(t, []roleCase{
		{"(define-syntax m (syntax-rules (else) ((_ else) 1) ((_ a) a))) (lambda (x) (m x) (m else))", "1o 2o 4o 6o 8o 9o 10o 11b:x~2 12o 13r:x~2 6o 13r:x~2 14o 15o 6o"},
		{"(lambda (else) (define-syntax m (syntax-rules (else) ((_ else) 1))) (m else))", "1o 2b:else~1 3o 4o 6o 8o 9o 10r:else~1 8r:else~1 8o"},
		{"(lambda (p q) (define-syntax m (syntax-rules (p q) ((_ p q) 1))) (m p q))", "1o 2b:p~1 3b:q~2 4o 5o 7o 8o 10o 11o 12o 13r:p~1 14r:q~2 10r:p~1 10o 11r:q~2 11o"},
		{"(define-syntax m (syntax-rules (p q) ((_ p p) 1) ((_ q a) 2))) (m q r)", "1o 2o 4o 5o 7o 8o 10o 11o 12o 13o 13o 7o 10o"},
		{"(define-syntax m (syntax-rules (p) ((_ p p) 1) ((_ p . a) 2))) (m p q)", "1o 2o 4o 6o 7o 9o 10o 11o 12o 13o 12o 6o 7o 9o"},
		{"(define-syntax m (syntax-rules (p) ((_ p ... 1) 1) ((_ . a) 2))) (m p p q)", "1o 2o 4o 6o 9o 10o 11o 12o 6o 6o"},
		{"(define-syntax m (syntax-rules (p) ((_ p ... (p . p)) 1))) (m p p (p . p))", "1o 2o 4o 6o 8o 9o 10o 11o 12o 13o 14o 6o 6o 8o 9o"},
		{"(define-syntax m (syntax-rules (p) ((_ p) 1) ((_ p a) 2) ((_ a b) 3))) (m 5 p)", "1o 2o 4o 6o 8o 9o 11o 12o 13o"},
		{"(define-syntax m (syntax-rules (p) ((_ p 1) 1) ((_ 1 p) 2) ((_ a b) 3))) (m 5 p) (m p p)", "1o 2o 4o 6o 8o 10o 11o 12o 14o 15o 6o"},
		{"(define-syntax m (syntax-rules (if) ((_ if) 1))) (m if) (define if 1) (m if)", "1o 2o 4o 6o 7o 8o 6o 9o 10o 11o 12o 6o"},
		{"(define-syntax m (syntax-rules (m) ((_ m) 1))) (m m)", "1o 2o 4o 6o 7o 8o 6o"},
		{"(define-syntax m (syntax-rules () ((_ p) 1))) (lambda (p) (m p))", "1o 2o 5o 6o 7b:p~2 8o"},
	})
}

// A From may be 0, or that of several.
func TestExpandRolesByFrom(t *testing.T) {
	forms := []impl.ExpForm{list(id("lambda", 0), list(id("x", 5)), list(id("f", 5), id("x", 5, 3), id("x", 1<<40)))}
	r := demandExpand(t, "forms", forms)
	if got := rolesShown(r.Roles); got != "0o 5b:x~1 5o 5r:x~1 1099511627776r:x~1" {
		t.Error(got)
	}
}

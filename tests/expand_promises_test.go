package tests

import (
	"slices"
	"testing"

	"loop.example/siskin/impl"
)

func showProgram(forms []impl.ExpForm) string {
	text := ""
	for _, f := range forms {
		text += impl.ExpShow(f) + "\n"
	}
	return text
}

// demandMet fails, if one of the codes was hardly met by what was made.
func demandMet(t *testing.T, met map[int]int, codes ...int) {
	t.Helper()
	for _, code := range codes {
		if met[code] < 10 {
			t.Errorf("fault %d was met %d times", code, met[code])
		}
	}
}

// Promise 2, and what the document's words say, at programs of all kinds.
func TestExpandBindsOnceAndUsesWithin(t *testing.T) {
	met := map[int]int{}
	for _, forms := range madePrograms(3000) {
		what := showProgram(forms)
		r := demandExpand(t, what, forms)
		met[r.Fault.Code]++
		if !boundWell(r.Cores) {
			t.Errorf("%s: a name is bound twice, or used where it is not bound: %s", what, shown(r))
		}
		demandRolesOfNames(t, what, r)
	}
	demandMet(t, met, 0, 1, 2, 4, 5, 6)
}

// demandRolesOfNames fails, if a name is bound without a role that tells it, or referred to by an identifier ahead of that.
func demandRolesOfNames(t *testing.T, what string, r impl.ExpResult) {
	t.Helper()
	bound := map[string]bool{}
	for _, role := range r.Roles {
		switch role.Kind {
		case impl.ExpBinds:
			if bound[role.Name] {
				t.Errorf("%s: %s is bound twice", what, role.Name)
			}
			bound[role.Name] = true
		case impl.ExpRefers:
			if !bound[role.Name] {
				t.Errorf("%s: %s is referred to ahead of being bound", what, role.Name)
			}
		default:
			if role.Name != "" {
				t.Errorf("%s: %v has a name", what, role)
			}
		}
	}
	inCores := map[string]bool{}
	bindOnce(r.Cores, inCores)
	if len(inCores) != len(bound) {
		t.Errorf("%s: %d names are bound, %d in roles", what, len(inCores), len(bound))
	}
	for name := range inCores {
		if !bound[name] {
			t.Errorf("%s: %s has no role", what, name)
		}
	}
}

// Promise 3, at programs of all kinds: what the first forms come to is the beginning of what all come to.
func TestExpandOfFirstForms(t *testing.T) {
	looked := 0
	for _, forms := range madePrograms(2000) {
		whole := impl.ExpExpand(forms)
		if whole.Fault.Code == 0 {
			looked++
			demandBeginnings(t, forms, whole)
		}
	}
	if looked < 500 {
		t.Errorf("only %d programs have no fault", looked)
	}
}

func demandBeginnings(t *testing.T, forms []impl.ExpForm, whole impl.ExpResult) {
	t.Helper()
	for many := range forms {
		first := impl.ExpExpand(forms[:many])
		if first.Fault.Code != 0 || !isBeginning(first, whole) {
			t.Errorf("%s: the first %d come to\n%sof\n%s", showProgram(forms), many, shown(first), shown(whole))
		}
	}
}

func isBeginning(first, whole impl.ExpResult) bool {
	if len(first.Cores) > len(whole.Cores) || len(first.Roles) > len(whole.Roles) {
		return false
	}
	return sameCores(first.Cores, whole.Cores[:len(first.Cores)]) && slices.Equal(first.Roles, whole.Roles[:len(first.Roles)])
}

// Promise 3: what stands behind may define what the first forms use, in each of the ways there are.
func TestExpandOfFirstFormsAheadOfDefinitions(t *testing.T) {
	for _, c := range []struct {
		first, behind, want string
	}{
		{"(f x)", "(define f 1) (define x 2)", lines("(f x)")},
		{"(m x)", "(define-syntax m (syntax-rules () ((_ a) 5)))", lines("(m x)")},
		{"(if 1 2)", "(define if 3)", lines("(if 1 2)")},
		{"(define (f) (m 1))", "(define-syntax m (syntax-rules () ((_ a) 5)))", lines("(define f (lambda () (m 1)))")},
		{"(lambda (a) (define b m) b)", "(begin (define-syntax m (syntax-rules ())))", lines("(lambda (a~1) (rec (b~2) m b~2))")},
		{"(define-syntax m (syntax-rules () ((_) (n)))) (m)", "(define-syntax n (syntax-rules () ((_) 1)))", lines("(n)")},
		{"(define-syntax m (syntax-rules () ((_) x))) (m)", "(define-syntax d (syntax-rules () ((_) (define x 1)))) (d) (m)", lines("x")},
		{"", "(define x 1)", ""},
	} {
		first, all := readAll(c.first), readAll(c.first+" "+c.behind)
		if got := shown(impl.ExpExpand(first)); got != c.want {
			t.Errorf("%s: %s", c.first, got)
		}
		demandBeginnings(t, all, demandExpand(t, c.first+" "+c.behind, all))
	}
}

// Scopes that are handed in may be those that come to be new: what is bound shows in which order these are.
func TestExpandOfFormsWithScopes(t *testing.T) {
	m := programMaker{formMaker: formMaker{state: 9}}
	met := map[int]int{}
	for _, forms := range madePrograms(2500) {
		scoped := m.scoped(forms)
		met[demandExpand(t, showProgram(scoped), scoped).Fault.Code]++
	}
	demandMet(t, met, 0, 1, 2, 3, 4, 5, 6)
}

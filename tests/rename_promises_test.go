package tests

import (
	"strconv"
	"testing"

	"loop.example/siskin/impl"
)

// Promise 1, and what the document's words say, at each identifier of programs of all kinds.
func TestRenameIsHygienic(t *testing.T) {
	renamed, refused := 0, 0
	for _, forms := range append(madePrograms(300), madeBodies(400)...) {
		what := showProgram(forms)
		before := impl.ExpExpand(forms)
		want := wantExpand(forms)
		for _, n := range someOf(identifiers(list(forms...)), before) {
			got, ok := impl.ExpRename(forms, n.From, "zz")
			wanted, wantOk := wantRenameBy(want, forms, n.From, "zz")
			if ok != wantOk || !sameForms(got, wanted) {
				t.Errorf("%s: %d: %s %v and not %s %v", what, n.From, showProgram(got), ok, showProgram(wanted), wantOk)
			}
			if !ok {
				refused++
				continue
			}
			renamed++
			demandHygiene(t, what+strconv.Itoa(n.From), before, got)
		}
	}
	if renamed < 500 || refused < 500 {
		t.Errorf("%d renamed, %d refused", renamed, refused)
	}
}

// someOf is all identifiers of a program; of one with a fault, which refuses them all, a few.
func someOf(all []impl.ExpForm, r impl.ExpResult) []impl.ExpForm {
	if r.Fault.Code != 0 {
		return all[:min(2, len(all))]
	}
	return all
}

// madeBodies are so many programs, of a macro and a procedure, in whose body what is defined is bound within.
func madeBodies(many int) [][]impl.ExpForm {
	m := programMaker{formMaker: formMaker{state: 17}}
	var all [][]impl.ExpForm
	for len(all) < many {
		if forms, ok := impl.ExpRead(m.syntax() + " (lambda (x y . else) " + m.body(3) + ")"); ok {
			all = append(all, forms)
		}
	}
	return all
}

// Promise 1, one behind the other: each identifier that can be given another text has one of its own then.
func TestRenameOfRenamed(t *testing.T) {
	for _, forms := range append(madeBodies(150), readAll(exampleText)) {
		what := showProgram(forms)
		before := impl.ExpExpand(forms)
		for i, n := range someOf(identifiers(list(forms...)), before) {
			if got, ok := impl.ExpRename(forms, n.From, "zz"+strconv.Itoa(i)); ok {
				forms = got
				demandHygiene(t, what+strconv.Itoa(n.From), before, forms)
			}
		}
	}
}

// What is told with scopes that are handed in is what the document's words say, too.
func TestRenameOfFormsWithScopes(t *testing.T) {
	m := programMaker{formMaker: formMaker{state: 11}}
	renamed := 0
	for _, forms := range madeBodies(200) {
		scoped := m.scoped(forms)
		want := wantExpand(scoped)
		for _, n := range someOf(identifiers(list(scoped...)), want) {
			got, ok := impl.ExpRename(scoped, n.From, "zz")
			wanted, wantOk := wantRenameBy(want, scoped, n.From, "zz")
			if ok != wantOk || !sameForms(got, wanted) {
				t.Errorf("%s: %d: %s %v and not %s %v", showProgram(scoped), n.From, showProgram(got), ok, showProgram(wanted), wantOk)
			}
			if ok {
				renamed++
			}
		}
	}
	if renamed < 100 {
		t.Errorf("only %d renamed", renamed)
	}
}

// Promise 1 at forms with scopes that are beyond those that come to be new.
func TestRenameIsHygienicWithScopes(t *testing.T) {
	m := programMaker{formMaker: formMaker{state: 13}}
	renamed := 0
	for _, forms := range madeBodies(200) {
		for i := range forms {
			if m.below(2) == 0 {
				forms[i] = impl.ExpWith(forms[i], 5000+m.below(3))
			}
		}
		before := impl.ExpExpand(forms)
		for _, n := range someOf(identifiers(list(forms...)), before) {
			if got, ok := impl.ExpRename(forms, n.From, "zz"); ok {
				renamed++
				demandHygiene(t, showProgram(forms)+strconv.Itoa(n.From), before, got)
			}
		}
	}
	if renamed < 100 {
		t.Errorf("only %d renamed", renamed)
	}
}

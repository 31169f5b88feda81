package tests

import (
	"slices"
	"strconv"
	"strings"
	"testing"

	"loop.example/siskin/impl"
)

// What chapter 7 of the document says of ExpRename, written down word by word, to hold the program against.
func wantRename(forms []impl.ExpForm, from int, to string) ([]impl.ExpForm, bool) {
	return wantRenameBy(wantExpand(forms), forms, from, to)
}

// wantRenameBy is for many questions about forms that were expanded once.
func wantRenameBy(r impl.ExpResult, forms []impl.ExpForm, from int, to string) ([]impl.ExpForm, bool) {
	if r.Fault.Code != 0 || !mayHaveText(forms, to) || !mayBeRenamed(r.Roles, forms, from) {
		return nil, false
	}
	return withText(forms, mustHaveOneText(r.Roles, from), to), true
}

func mayHaveText(forms []impl.ExpForm, to string) bool {
	kept := names("begin", "define", "define-syntax", "if", "lambda", "quote", "set!", "syntax-rules", "...", "_")
	if !impl.ExpFormOk(id(to, 1)) || slices.Contains(kept, to) {
		return false
	}
	for _, n := range identifiers(list(forms...)) {
		if n.Text == to {
			return false
		}
	}
	return true
}

func mayBeRenamed(roles []impl.ExpRole, forms []impl.ExpForm, from int) bool {
	texts := map[int]string{}
	for _, n := range identifiers(list(forms...)) {
		if texts[n.From] != "" || n.From == 0 {
			return false
		}
		texts[n.From] = n.Text
	}
	if slices.Contains(names("", "...", "_", "syntax-rules"), texts[from]) {
		return false
	}
	all, binds := mustHaveOneText(roles, from), false
	for _, role := range roles {
		if all[role.From] && !ofName(role) {
			return false
		}
		binds = binds || role.From == from
	}
	return binds
}

func ofName(role impl.ExpRole) bool {
	return role.Kind == impl.ExpBinds || role.Kind == impl.ExpRefers
}

// mustHaveOneText goes on with Froms and names until none is new.
func mustHaveOneText(roles []impl.ExpRole, from int) map[int]bool {
	froms, named := map[int]bool{from: true}, map[string]bool{}
	for grown := true; grown; {
		grown = false
		for _, role := range roles {
			if ofName(role) && froms[role.From] != named[role.Name] {
				froms[role.From], named[role.Name], grown = true, true, true
			}
		}
	}
	return froms
}

func withText(forms []impl.ExpForm, froms map[int]bool, to string) []impl.ExpForm {
	var all []impl.ExpForm
	for _, f := range forms {
		if f.Sort == impl.ExpId && froms[f.From] {
			f.Text = to
		}
		f.Kids = withText(f.Kids, froms, to)
		all = append(all, f)
	}
	return all
}

// demandRename fails, if the answer is not what the document's words say.
func demandRename(t *testing.T, what string, forms []impl.ExpForm, from int, to string) ([]impl.ExpForm, bool) {
	t.Helper()
	what += " " + strconv.Itoa(from) + " " + strconv.Quote(to)
	got, ok := impl.ExpRename(forms, from, to)
	want, wantOk := wantRename(forms, from, to)
	if ok != wantOk || !sameForms(got, want) {
		t.Errorf("%s:\n%s%v\nand not\n%s%v", what, showProgram(got), ok, showProgram(want), wantOk)
	}
	return got, ok
}

// demandHygiene fails, if forms and what they are with another text do not come to the same but for names: promise 1.
func demandHygiene(t *testing.T, what string, before impl.ExpResult, renamed []impl.ExpForm) {
	t.Helper()
	after := impl.ExpExpand(renamed)
	if before.Fault.Code != 0 || after.Fault.Code != 0 || len(before.Roles) != len(after.Roles) || !impl.ExpAlpha(before.Cores, after.Cores) {
		t.Errorf("%s:\n%s%s\nand, renamed,\n%s%s", what, shown(before), rolesShown(before.Roles), shown(after), rolesShown(after.Roles))
	}
}

// marked reads a text in which a * stands behind some identifiers: the forms without it, and the Froms of these identifiers.
func marked(text string) ([]impl.ExpForm, []int) {
	forms := readAll(text)
	var all []int
	for _, n := range identifiers(list(forms...)) {
		if strings.HasSuffix(n.Text, "*") {
			all = append(all, n.From)
		}
	}
	return unmarked(forms), all
}

func unmarked(forms []impl.ExpForm) []impl.ExpForm {
	var all []impl.ExpForm
	for _, f := range forms {
		f.Text, f.Kids = strings.TrimSuffix(f.Text, "*"), unmarked(f.Kids)
		all = append(all, f)
	}
	return all
}

// demandRenames fails, if one of the marked identifiers of a text cannot be given the text zz, or others than the marked ones have it then.
func demandRenames(t *testing.T, texts ...string) {
	t.Helper()
	for _, text := range texts {
		forms, all := marked(text)
		want := withText(forms, setOfFroms(all), "zz")
		for _, from := range all {
			got, ok := demandRename(t, text, forms, from, "zz")
			if !ok || !sameForms(got, want) {
				t.Errorf("%s: %d: %v\n%s", text, from, ok, showProgram(got))
				continue
			}
			demandHygiene(t, text, impl.ExpExpand(forms), got)
		}
		if len(all) == 0 {
			t.Errorf("%s: none is marked", text)
		}
	}
}

func setOfFroms(all []int) map[int]bool {
	set := map[int]bool{}
	for _, from := range all {
		set[from] = true
	}
	return set
}

// demandNoRenames fails, if one of the marked identifiers of a text without a fault is given the text zz.
func demandNoRenames(t *testing.T, texts ...string) {
	t.Helper()
	for _, text := range texts {
		forms, all := marked(text)
		demandRefused(t, text, forms, "zz", all...)
		if r := impl.ExpExpand(forms); len(all) == 0 || r.Fault.Code != 0 {
			t.Errorf("%s: none is marked, or %v", text, r.Fault)
		}
	}
}

func demandRefused(t *testing.T, what string, forms []impl.ExpForm, to string, froms ...int) {
	t.Helper()
	for _, from := range froms {
		if got, ok := demandRename(t, what, forms, from, to); ok || len(got) != 0 {
			t.Errorf("%s: %d %q: %v %s", what, from, to, ok, showProgram(got))
		}
	}
}

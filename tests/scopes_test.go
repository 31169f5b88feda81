package tests

import (
	"math"
	"slices"
	"strings"
	"testing"

	"loop.example/siskin/impl"
)

// rescope is ExpWith or ExpFlip, and what each makes of the scopes of an identifier.
type rescope struct {
	what string
	call func(impl.ExpForm, int) impl.ExpForm
	want func(scopes []int, scope int) []int
}

func rescopes() []rescope {
	with := func(scopes []int, scope int) []int {
		all := append(slices.Clone(scopes), scope)
		slices.Sort(all)
		return slices.Compact(all)
	}
	flip := func(scopes []int, scope int) []int {
		if at := slices.Index(scopes, scope); at >= 0 {
			return slices.Delete(slices.Clone(scopes), at, at+1)
		}
		return with(scopes, scope)
	}
	return []rescope{{"ExpWith", impl.ExpWith, with}, {"ExpFlip", impl.ExpFlip, flip}}
}

// wanted is a form whose identifiers have the scopes that a rescope makes of theirs.
func (r rescope) wanted(f impl.ExpForm, scope int) impl.ExpForm {
	if f.Sort == impl.ExpId {
		f.Scopes = r.want(f.Scopes, scope)
	}
	var kids []impl.ExpForm
	for _, kid := range f.Kids {
		kids = append(kids, r.wanted(kid, scope))
	}
	f.Kids = kids
	return f
}

func TestWithAndFlipOfOneIdentifier(t *testing.T) {
	for _, c := range []struct {
		scopes     []int
		scope      int
		with, flip []int
	}{
		{nil, 0, []int{0}, []int{0}},
		{[]int{0}, 0, []int{0}, nil},
		{[]int{1, 3}, 0, []int{0, 1, 3}, []int{0, 1, 3}},
		{[]int{1, 3}, 1, []int{1, 3}, []int{3}},
		{[]int{1, 3}, 2, []int{1, 2, 3}, []int{1, 2, 3}},
		{[]int{1, 3}, 3, []int{1, 3}, []int{1}},
		{[]int{1, 3}, 4, []int{1, 3, 4}, []int{1, 3, 4}},
		{[]int{1, 3, 5}, 3, []int{1, 3, 5}, []int{1, 5}},
		{[]int{1}, math.MaxInt, []int{1, math.MaxInt}, []int{1, math.MaxInt}},
	} {
		f := id("a", 9, c.scopes...)
		if got := impl.ExpWith(f, c.scope); !sameForm(got, id("a", 9, c.with...)) {
			t.Errorf("ExpWith %v %d: %v", c.scopes, c.scope, got)
		}
		if got := impl.ExpFlip(f, c.scope); !sameForm(got, id("a", 9, c.flip...)) {
			t.Errorf("ExpFlip %v %d: %v", c.scopes, c.scope, got)
		}
	}
}

func TestWithAndFlipOfForms(t *testing.T) {
	for _, r := range rescopes() {
		for _, f := range someOk() {
			for _, scope := range []int{0, 1, 2, 6} {
				got := r.call(f, scope)
				if !sameForm(got, r.wanted(f, scope)) || !impl.ExpFormOk(got) {
					t.Errorf("%s %v %d: %v", r.what, f, scope, got)
				}
			}
		}
	}
}

func TestWithAndFlipOfListsThatEndInLists(t *testing.T) {
	forms, _ := impl.ExpRead("(a . (b . (c . d)))")
	want := dots(id("a", 1, 5), id("b", 2, 5), id("c", 3, 5), id("d", 4, 5))
	for _, r := range rescopes() {
		if got := r.call(forms[0], 5); !sameForm(got, want) {
			t.Errorf("%s: %v", r.what, got)
		}
		for what, f := range map[string]impl.ExpForm{"a list": dots(id("a", 1), list(id("b", 2))), "dots": dots(id("a", 1), dots(id("b", 2), id("c", 3)))} {
			if got := r.call(f, 5); !isNothing(got) {
				t.Errorf("%s of dots that end in %s: %v", r.what, what, got)
			}
		}
	}
}

func TestWithAndFlipRefuse(t *testing.T) {
	for _, r := range rescopes() {
		for what, f := range someNotOk() {
			for _, scope := range []int{0, 2, -1} {
				if got := r.call(f, scope); !isNothing(got) {
					t.Errorf("%s of %s, %d: %v", r.what, what, scope, got)
				}
			}
		}
		for _, f := range []impl.ExpForm{id("a", 1), id("a", 1, 1), atom("1"), list(), dots(id("a", 1), id("b", 2))} {
			for _, scope := range []int{-1, -2, math.MinInt} {
				if got := r.call(f, scope); !isNothing(got) {
					t.Errorf("%s of %v, %d: %v", r.what, f, scope, got)
				}
			}
		}
	}
}

// Promise 7.
func TestWithTwiceIsOnceFlipTwiceIsNothing(t *testing.T) {
	for _, f := range someOk() {
		for _, scope := range []int{0, 1, 2, 3, 4, 5, 1000} {
			with, flip := impl.ExpWith(f, scope), impl.ExpFlip(f, scope)
			if again := impl.ExpWith(with, scope); !sameForm(again, with) {
				t.Errorf("ExpWith twice of %v with %d: %v", f, scope, again)
			}
			if again := impl.ExpFlip(flip, scope); !sameForm(again, f) {
				t.Errorf("ExpFlip twice of %v with %d: %v", f, scope, again)
			}
			if show := impl.ExpShow(f); impl.ExpShow(with) != show || impl.ExpShow(flip) != show {
				t.Errorf("%v is shown in another way with %d", f, scope)
			}
		}
	}
}

func TestWithAndFlipGiveNewMemory(t *testing.T) {
	forms := []impl.ExpForm{id("a", 1), id("a", 1, 0, 2, 4), list(), nested(impl.ExpMaxDeep, id("a", 1, 2)), dots(list(id("a", 1, 2)), id("b", 2, 2))}
	forms = append(forms, madeForms()[:60]...)
	for _, r := range rescopes() {
		for _, f := range forms {
			for _, scope := range []int{-1, 0, 2, 9} {
				room := roomy(f)
				got := r.call(room, scope)
				if !staysRoomy(room, f) {
					t.Errorf("%s %v %d: it was changed", r.what, f, scope)
				}
				demandNewMemory(t, r.what, got, room)
			}
		}
	}
}

func TestWithGivesEqualScopesOwnMemory(t *testing.T) {
	scopes := []int{1, 2}
	one := id("a", 1, scopes...)
	one.Scopes = scopes
	f := list(one, one, list(one))
	for _, r := range rescopes() {
		for _, scope := range []int{1, 3} {
			demandNewMemory(t, r.what, r.call(f, scope), f)
		}
	}
}

// findByWords goes by the document's words: the last of those that fit that has all scopes of all that fit.
func findByWords(binds []impl.ExpBind, n impl.ExpForm) (string, int) {
	hasAll := func(has, of []int) bool {
		for _, scope := range of {
			if !slices.Contains(has, scope) {
				return false
			}
		}
		return true
	}
	var fits []impl.ExpBind
	for _, b := range binds {
		if n.Sort == impl.ExpId && b.Text == n.Text && hasAll(n.Scopes, b.Scopes) {
			fits = append(fits, b)
		}
	}
	for _, best := range slices.Backward(fits) {
		nearest := true
		for _, b := range fits {
			nearest = nearest && hasAll(best.Scopes, b.Scopes)
		}
		if nearest {
			return best.Name, 1
		}
	}
	return "", min(len(fits), 1) * 2
}

func demandFind(t *testing.T, binds []impl.ExpBind, n impl.ExpForm) {
	t.Helper()
	wantName, wantCode := findByWords(binds, n)
	if name, code := impl.ExpFind(binds, n); name != wantName || code != wantCode {
		t.Errorf("ExpFind %v %v: %q %d, not %q %d", binds, n, name, code, wantName, wantCode)
	}
}

func subsets(of int) [][]int {
	var all [][]int
	for bits := range 1 << of {
		var set []int
		for scope := range of {
			if bits>>scope&1 == 1 {
				set = append(set, scope)
			}
		}
		all = append(all, set)
	}
	return all
}

// Promise 6.
func TestFindTellsTheNearest(t *testing.T) {
	sets := subsets(3)
	for _, scopes := range sets {
		n := id("a", 1, scopes...)
		demandFind(t, nil, n)
		for _, a := range sets {
			one := impl.ExpBind{Text: "a", Scopes: a, Name: "one"}
			demandFind(t, []impl.ExpBind{one}, n)
			for _, b := range sets {
				two := impl.ExpBind{Text: "a", Scopes: b, Name: "two"}
				demandFind(t, []impl.ExpBind{one, two}, n)
				for _, c := range sets {
					three := impl.ExpBind{Text: "a", Scopes: c, Name: "three"}
					demandFind(t, []impl.ExpBind{one, two, three}, n)
					two.Text = "b"
					demandFind(t, []impl.ExpBind{one, two, three}, n)
					two.Text = "a"
				}
			}
		}
	}
}

func TestFind(t *testing.T) {
	bind := func(text, name string, scopes ...int) impl.ExpBind {
		return impl.ExpBind{Text: text, Name: name, Scopes: scopes}
	}
	for _, c := range []struct {
		what  string
		binds []impl.ExpBind
		id    impl.ExpForm
		name  string
		code  int
	}{
		{"none", nil, id("a", 1, 1), "", 0},
		{"another text", []impl.ExpBind{bind("b", "x"), bind("aa", "y"), bind("", "z")}, id("a", 1, 1), "", 0},
		{"too many scopes", []impl.ExpBind{bind("a", "x", 1, 2)}, id("a", 1, 1), "", 0},
		{"no scopes", []impl.ExpBind{bind("a", "x")}, id("a", 1), "x", 1},
		{"an empty name", []impl.ExpBind{bind("a", "x"), bind("a", "", 1)}, id("a", 1, 1), "", 1},
		{"the nearest first", []impl.ExpBind{bind("a", "x", 1, 2), bind("a", "y", 1)}, id("a", 1, 1, 2, 3), "x", 1},
		{"the nearest last", []impl.ExpBind{bind("a", "y", 1), bind("a", "x", 1, 2)}, id("a", 1, 1, 2, 3), "x", 1},
		{"the last of the same", []impl.ExpBind{bind("a", "x", 1), bind("a", "y", 1), bind("a", "z")}, id("a", 1, 1), "y", 1},
		{"unclear", []impl.ExpBind{bind("a", "x", 1), bind("a", "y", 2)}, id("a", 1, 1, 2), "", 2},
		{"unclear, one greater", []impl.ExpBind{bind("a", "x", 1), bind("a", "y", 2, 3)}, id("a", 1, 1, 2, 3), "", 2},
		{"unclear but for one behind", []impl.ExpBind{bind("a", "x", 1), bind("a", "y", 2), bind("a", "z", 1, 2)}, id("a", 1, 1, 2), "z", 1},
		{"unclear but for one that does not fit", []impl.ExpBind{bind("a", "x", 1), bind("a", "y", 2), bind("a", "z", 1, 2, 3)}, id("a", 1, 1, 2), "", 2},
		{"scopes in another order", []impl.ExpBind{bind("a", "x", 3, 1, 2), bind("a", "y", 2, 1)}, id("a", 1, 2, 3, 1), "x", 1},
		{"scopes several times", []impl.ExpBind{bind("a", "x", 1, 1, 1), bind("a", "y", 2, 1)}, id("a", 1, 2, 2, 1), "y", 1},
		{"the same set in other lists", []impl.ExpBind{bind("a", "x", 2, 1, 2), bind("a", "y", 1, 2), bind("a", "z", 1)}, id("a", 1, 2, 1), "y", 1},
		{"an atom", []impl.ExpBind{bind("1", "x")}, atom("1"), "", 0},
		{"a list", []impl.ExpBind{bind("", "x")}, list(), "", 0},
		{"dots", []impl.ExpBind{bind("", "x")}, dots(id("a", 1), id("b", 2)), "", 0},
		{"a list that ends in a list", []impl.ExpBind{bind("", "x")}, dots(id("a", 1), list()), "", 0},
		{"nothing", []impl.ExpBind{bind("", "x")}, impl.ExpForm{}, "", 0},
		{"another sort", []impl.ExpBind{bind("a", "x")}, impl.ExpForm{Sort: 5, Text: "a"}, "", 0},
		{"a list that holds itself", []impl.ExpBind{bind("", "x")}, wheel(2), "", 0},
	} {
		if name, code := impl.ExpFind(c.binds, c.id); name != c.name || code != c.code {
			t.Errorf("%s: %q %d", c.what, name, code)
		}
	}
}

// ExpFind has no limit of its own: a text is just held against a text.
func TestFindOfMany(t *testing.T) {
	var binds []impl.ExpBind
	var scopes []int
	for i := range impl.ExpMaxForms + 1 {
		scopes = append(scopes, i)
		binds = append(binds, impl.ExpBind{Text: "a", Scopes: []int{i, 0, i / 2}, Name: "some"})
	}
	if name, code := impl.ExpFind(binds, id("a", 1, scopes...)); name != "" || code != 2 {
		t.Errorf("%q %d", name, code)
	}
	binds = append(binds[:700:700], append([]impl.ExpBind{{Text: "a", Scopes: scopes, Name: "all"}}, binds[700:]...)...)
	if name, code := impl.ExpFind(binds, id("a", 1, scopes...)); name != "all" || code != 1 {
		t.Errorf("%q %d", name, code)
	}
	for _, size := range []int{impl.ExpMaxName, impl.ExpMaxName + 1} {
		text := strings.Repeat("n", size)
		if name, code := impl.ExpFind([]impl.ExpBind{{Text: text, Name: "x"}}, id(text, 1)); name != "x" || code != 1 {
			t.Errorf("%d bytes: %q %d", size, name, code)
		}
	}
}

func TestFindChangesNothing(t *testing.T) {
	for _, scopes := range [][]int{{3, 1, 2}, {2, 2, 1}, {1, 2}, {}} {
		n := roomy(id("a", 1, scopes...))
		binds := make([]impl.ExpBind, 2, 3)
		binds[0] = impl.ExpBind{Text: "a", Scopes: roomyScopes(scopes), Name: "x"}
		binds[1] = impl.ExpBind{Text: "a", Scopes: roomyScopes([]int{1}), Name: "y"}
		first, firstCode := impl.ExpFind(binds, n)
		second, secondCode := impl.ExpFind(binds, n)
		if first != second || firstCode != secondCode {
			t.Errorf("%v: %q %d, then %q %d", scopes, first, firstCode, second, secondCode)
		}
		if !staysRoomy(n, id("a", 1, scopes...)) || !slices.Equal(binds[0].Scopes, scopes) || !slices.Equal(binds[1].Scopes, []int{1}) {
			t.Errorf("%v: %v %v", scopes, n, binds)
		}
		if !staysRoomyScopes(binds[0].Scopes) || !staysRoomyScopes(binds[1].Scopes) || binds[:3][2].Name != "" {
			t.Errorf("%v: something was written behind an end", scopes)
		}
	}
}

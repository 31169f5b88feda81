package tests

import (
	"slices"
	"strings"
	"testing"

	"loop.example/siskin/impl"
)

// matchMaker makes patterns, templates and what may match them, of numbers that follow a fixed rule.
type matchMaker struct {
	formMaker
	names int
}

// pattern is a pattern each of whose names is there once, and in which dots are where they may be.
func (m *matchMaker) pattern(deep int, withBlanks bool) impl.ExpForm {
	switch kind := m.below(8); {
	case deep == 0 || kind < 2:
		return m.name()
	case kind == 2:
		return atom([]string{"1", "#t"}[m.below(2)])
	case kind == 3 && withBlanks:
		return []impl.ExpForm{id("_", 1), id("_", 2, 5), id("else", 3), id("=>", 4, 1)}[m.below(4)]
	}
	var parts []impl.ExpForm
	for range m.below(4) {
		parts = append(parts, m.pattern(deep-1, withBlanks))
	}
	if at := m.below(6); at > 0 && at <= len(parts) && (withBlanks || len(namesOf(parts[at-1], nil)) > 0) {
		parts = slices.Insert(parts, at, id("...", 9, at))
	}
	if len(parts) > 0 && m.below(3) == 0 {
		return dots(append(parts, m.name())...)
	}
	return list(parts...)
}

func (m *matchMaker) name() impl.ExpForm {
	m.names++
	return id([]string{"n", "m"}[m.names%2], m.names, m.names/2)
}

// matching is a form that a pattern matches.
func (m *matchMaker) matching(p impl.ExpForm) impl.ExpForm {
	if p.Sort == impl.ExpAtom || p.Text == "else" || p.Text == "=>" {
		return p
	}
	if p.Sort == impl.ExpId {
		return m.form(2)
	}
	parts, end := partsAndEnd(p)
	var made []impl.ExpForm
	for i, part := range parts {
		times := 1
		if isDotsId(part) {
			continue
		}
		if i+1 < len(parts) && isDotsId(parts[i+1]) {
			times = m.below(4)
		}
		for range times {
			made = append(made, m.matching(part))
		}
	}
	if len(end) == 0 {
		return list(made...)
	}
	last := m.matching(end[0])
	if slices.ContainsFunc(parts, isDotsId) && isAnyList(last) {
		last = list() // of a list the repeated part would take the parts
	}
	return joined(made, []impl.ExpForm{last})
}

func someLiterals() []impl.ExpForm {
	return []impl.ExpForm{id("else", 0), id("=>", 7, 1)}
}

func TestPatternOk(t *testing.T) {
	for _, text := range []string{
		"a", "_", "1", "()", "(a b)", "(a . b)", "(a . 1)", "(a . _)", "(a ...)", "(a ... b)", "(a b ... c d)", "(a ... . b)", "(a b ... c . d)",
		"((a ...) ...)", "(((a ...) b ...) ... c)", "((a ...) (b ...))", "((a . b) ... . c)", "(_ _ (_) . _)", "(_ ...)", "(1 ...)", "(() ...)", "((a b) (c d) ...)",
		"(else else)", "(else ...)", "(a else . else)", "(.. ....)",
	} {
		if !impl.ExpPatternOk(read(text), []impl.ExpForm{id("else", 0)}) {
			t.Errorf("%s: not ok", text)
		}
	}
	for _, text := range []string{
		"...", "(...)", "(... a)", "(... ...)", "(a ... ...)", "(a ... b ...)", "(a ... b c ...)", "(a . ...)", "(a ... . ...)", "(... . a)", "((... a))", "(b (a ... c ...))", "((a . ...))", "((...) . a)",
		"(a a)", "(a (a))", "((a) (a))", "(a . a)", "(a ... a)", "((a ...) a)", "((a ...) (a ...))", "(a b c b)", "((x . a) ... . a)",
	} {
		if impl.ExpPatternOk(read(text), []impl.ExpForm{id("else", 0)}) {
			t.Errorf("%s: ok", text)
		}
	}
}

func TestPatternOkLooksAtScopes(t *testing.T) {
	for _, c := range []struct {
		what     string
		pattern  impl.ExpForm
		literals []impl.ExpForm
		want     bool
	}{
		{"one text, other scopes", list(id("a", 1), id("a", 2, 1), id("a", 3, 2), id("a", 4, 1, 2)), nil, true},
		{"one text, the same scopes, another From", list(id("a", 1, 1, 2), id("a", 2, 1, 2)), nil, false},
		{"texts and scopes that look alike", list(id("a", 1, 12), id("a", 2, 1, 2), id("a1", 3, 2), id("a", 4, 1, 22), id("a", 5, 12, 2+20)), nil, true},
		{"dots with scopes are dots", list(id("...", 1, 3), id("a", 2)), nil, false},
		{"dots with scopes behind a part", list(id("a", 2), id("...", 1, 3)), nil, true},
		{"dots of other scopes are two", list(id("a", 1), id("...", 2, 1), id("b", 3), id("...", 4, 2)), nil, false},
		{"dots with scopes alone", id("...", 1, 3), nil, false},
		{"blanks with scopes are blanks", list(id("_", 1, 3), id("_", 2, 3)), nil, true},
		{"a literal twice", list(id("a", 1, 3), id("a", 2, 3)), []impl.ExpForm{id("a", 9, 3)}, true},
		{"a literal of other scopes", list(id("a", 1, 3), id("a", 2, 3)), []impl.ExpForm{id("a", 1), id("a", 1, 3, 4), id("b", 1, 3)}, false},
		{"a literal twice among literals", list(id("a", 1), id("a", 2)), []impl.ExpForm{id("a", 1), id("a", 2), id("a", 1)}, true},
	} {
		if impl.ExpPatternOk(c.pattern, c.literals) != c.want {
			t.Errorf("%s: not %v", c.what, c.want)
		}
	}
}

func TestPatternOkAsksForForms(t *testing.T) {
	for what, f := range someNotOk() {
		if impl.ExpPatternOk(f, nil) {
			t.Errorf("pattern %s: ok", what)
		}
		if impl.ExpPatternOk(atom("1"), []impl.ExpForm{id("a", 1), f}) {
			t.Errorf("literal %s: ok", what)
		}
		if _, ok := impl.ExpMatch(f, nil, atom("1"), nil); ok {
			t.Errorf("pattern %s: matches", what)
		}
		if _, ok := impl.ExpMatch(id("_", 1), []impl.ExpForm{f}, atom("1"), nil); ok {
			t.Errorf("literal %s: matches", what)
		}
	}
	for _, f := range []impl.ExpForm{atom("1"), list(), list(id("a", 1)), dots(id("a", 1), id("b", 2)), id("...", 1), id("...", 1, 2), id("_", 1), id("_", 1, 2)} {
		if impl.ExpPatternOk(atom("1"), []impl.ExpForm{f}) {
			t.Errorf("literal %s: ok", impl.ExpShow(f))
		}
	}
}

// blanks is a list of blanks that, with all within it, is so many forms.
func blanks(forms int) impl.ExpForm {
	return list(slices.Repeat([]impl.ExpForm{id("_", 1)}, forms-1)...)
}

func TestPatternLimits(t *testing.T) {
	long := strings.Repeat("n", impl.ExpMaxName)
	for _, p := range []impl.ExpForm{blanks(impl.ExpMaxForms), nested(impl.ExpMaxDeep, id("a", 1)), id(long, 1)} {
		f := p
		if _, ok := impl.ExpMatch(p, nil, f, nil); !ok || !impl.ExpPatternOk(p, nil) {
			t.Errorf("%.60s: not ok, or does not match itself", impl.ExpShow(p))
		}
	}
	for _, p := range []impl.ExpForm{blanks(impl.ExpMaxForms + 1), nested(impl.ExpMaxDeep+1, id("a", 1)), id(long+"n", 1)} {
		if got, ok := impl.ExpMatch(p, nil, atom("1"), nil); ok || len(got) > 0 || impl.ExpPatternOk(p, nil) {
			t.Errorf("a pattern past a limit is ok")
		}
		if got, ok := impl.ExpMatch(id("a", 1), nil, p, nil); ok || len(got) > 0 {
			t.Errorf("a form past a limit matches")
		}
	}
}

func TestPatternOkOfMadeForms(t *testing.T) {
	m := matchMaker{formMaker: formMaker{state: 3}}
	met := map[bool]int{}
	for range 4000 {
		p := m.form(3)
		want := wantPatternOk(p, someLiterals())
		met[want]++
		if impl.ExpPatternOk(p, someLiterals()) != want {
			t.Fatalf("%s: not %v", impl.ExpShow(p), want)
		}
	}
	if met[true] < 500 || met[false] < 500 {
		t.Errorf("too few of one kind: %v", met)
	}
}

func TestMatch(t *testing.T) {
	for _, c := range []struct{ pattern, form, want string }{
		{"a", "1", "a=1"}, {"a", "x", "a=x"}, {"a", "()", "a=()"}, {"a", "(1 . 2)", "a=(1 . 2)"},
		{"_", "1", ""}, {"_", "(1 . x)", ""}, {"1", "1", ""}, {"#t", "#t", ""}, {"\"a b\"", "\"a b\"", ""}, {"()", "()", ""},
		{"(a)", "(1)", "a=1"}, {"(a b)", "((1) ())", "a=(1) b=()"}, {"(b a)", "(1 2)", "b=1 a=2"}, {"(a (b (c)) _ d)", "(1 (2 (3)) 4 5)", "a=1 b=2 c=3 d=5"}, {"(else 1 a)", "(else 1 2)", "a=2"},
		{"(a . b)", "(1)", "a=1 b=()"}, {"(a . b)", "(1 2 3)", "a=1 b=(2 3)"}, {"(a . b)", "(1 . 2)", "a=1 b=2"}, {"(a . b)", "(1 2 3 . x)", "a=1 b=(2 3 . x)"}, {"(a b . c)", "(1 2 . 3)", "a=1 b=2 c=3"},
		{"(a . 5)", "(1 . 5)", "a=1"}, {"(a . _)", "(1 2)", "a=1"}, {"(a . else)", "(1 . else)", "a=1"}, {"((a . b) . c)", "((1))", "a=1 b=() c=()"},
		{"(a ...)", "()", "a:1[]"}, {"(a ...)", "(1 2)", "a:1[1 2]"}, {"(a b ...)", "(1)", "a=1 b:1[]"}, {"(a b ...)", "(1 2 3)", "a=1 b:1[2 3]"}, {"(a ... b)", "(1)", "a:1[] b=1"}, {"(a ... b)", "(1 2 3)", "a:1[1 2] b=3"},
		{"(a b ... c d)", "(1 2 3)", "a=1 b:1[] c=2 d=3"}, {"(a b ... c d)", "(1 2 3 4 5)", "a=1 b:1[2 3] c=4 d=5"},
		{"(a ... . b)", "5", "a:1[] b=5"}, {"(a ... . b)", "()", "a:1[] b=()"}, {"(a ... . b)", "(1 2)", "a:1[1 2] b=()"}, {"(a ... . b)", "(1 2 . x)", "a:1[1 2] b=x"}, {"(a b ... c . d)", "(1 2 3 . x)", "a=1 b:1[2] c=3 d=x"}, {"(a b ... c . d)", "(1 2)", "a=1 b:1[] c=2 d=()"},
		{"((a b ...) ...)", "()", "a:1[] b:2[]"}, {"((a b ...) ...)", "((1 2 3) (4) (5 6))", "a:1[1 4 5] b:2[[2 3] [] [6]]"}, {"(((a ...) ...) ...)", "(((1 2) ()) () ((3)))", "a:3[[[1 2] []] [] [[3]]]"}, {"(((a ...) ...) ...)", "(() ())", "a:3[[] []]"},
		{"((a ... b) ... c)", "((1 2 3) (4) 5)", "a:2[[1 2] []] b:1[3 4] c=5"}, {"(((a b) ...) . c)", "(((1 2) (3 4)) . 5)", "a:1[1 3] b:1[2 4] c=5"}, {"((a ... . b) ...)", "(1 (2 3) (4 . 5) ())", "a:2[[] [2 3] [4] []] b:1[1 () 5 ()]"},
		{"(1 ...)", "(1 1)", ""}, {"(_ ...)", "(1 (2))", ""}, {"(else ... a)", "(else else 1)", "a=1"}, {"((1 a) ...)", "((1 2) (1 3))", "a:1[2 3]"}, {"(() ...)", "(() ())", ""}, {"((_ ...) ...)", "((1) ())", ""},
	} {
		got, ok := impl.ExpMatch(read(c.pattern), []impl.ExpForm{id("else", 0)}, read(c.form), nil)
		if !ok || showGots(got) != c.want {
			t.Errorf("%s of %s: %v, %s; want %s", c.pattern, c.form, ok, showGots(got), c.want)
		}
	}
}

func TestMatchNot(t *testing.T) {
	for _, c := range []struct{ pattern, form string }{
		{"1", "2"}, {"7", "07"}, {"1", "x"}, {"1", "(1)"}, {"#t", "#f"}, {"1", "\"1\""}, {"else", "1"}, {"else", "els"}, {"else", "(else)"}, {"()", "(1)"}, {"()", "1"}, {"()", "x"},
		{"(a)", "()"}, {"(a)", "1"}, {"(a)", "x"}, {"(a)", "(1 2)"}, {"(a)", "(1 . 2)"}, {"(a b)", "(1)"}, {"(a b)", "(1 2 3)"}, {"(a b)", "(1 . 2)"}, {"(a 1)", "(1 2)"}, {"(1 a)", "(2 1)"}, {"((a))", "(1)"}, {"(a (b))", "(1 (2 3))"},
		{"(a . b)", "()"}, {"(a . b)", "1"}, {"(a . b)", "x"}, {"(a b . c)", "(1)"}, {"(a b . c)", "(1 . 2)"}, {"(a . 5)", "(1 . 6)"}, {"(a . 5)", "(1 5)"}, {"(a . 5)", "(1 2 . 5)"}, {"(a . 5)", "(1)"}, {"(a . else)", "(1 else)"}, {"(1 . a)", "(2 3)"},
		{"(a ...)", "1"}, {"(a ...)", "x"}, {"(a ...)", "(1 . 2)"}, {"(a b ...)", "()"}, {"(a ... b)", "()"}, {"(a b ... c)", "(1)"}, {"(a b ... c)", "(1 2 . 3)"}, {"(a b ... . c)", "()"}, {"(a b ... . c)", "5"}, {"(a ... b . c)", "5"}, {"(a ... b . c)", "()"}, {"(a ... . 5)", "(1 2)"}, {"(a ... . 5)", "6"},
		{"(1 ...)", "(1 2)"}, {"(1 ...)", "(2 1)"}, {"((a b) ...)", "((1 2) (3))"}, {"((a b) ...)", "((1 2) 3)"}, {"(a ... 1)", "(1 2)"}, {"(1 a ...)", "(2 1)"}, {"(else ...)", "(else x)"}, {"((a ...) ...)", "((1) 2)"}, {"((a ...) ...)", "((1) (2 . 3))"},
		{"(a ... b ...)", "(1)"}, {"(... a)", "(1 2)"}, {"(a a)", "(1 1)"}, {"...", "1"}, {"...", "..."}, {"(a . ...)", "(1 . 2)"},
	} {
		got, ok := impl.ExpMatch(read(c.pattern), []impl.ExpForm{id("else", 0)}, read(c.form), nil)
		if ok || len(got) > 0 {
			t.Errorf("%s of %s: %v, %s", c.pattern, c.form, ok, showGots(got))
		}
	}
}

func TestMatchComparesLiteralsByWhatTheyStandFor(t *testing.T) {
	binds := []impl.ExpBind{
		{Text: "a", Scopes: []int{1}, Name: "A"}, {Text: "b", Scopes: nil, Name: "A"}, {Text: "c", Scopes: nil, Name: "C"},
		{Text: "a", Scopes: []int{2}, Name: "A"}, {Text: "d", Scopes: nil, Name: ""}, {Text: "e", Scopes: []int{5}, Name: ""},
	}
	for _, c := range []struct {
		what        string
		literal, id impl.ExpForm
		want        bool
	}{
		{"the same name, the same text", id("a", 0, 1), id("a", 3, 1), true},
		{"the same name, other scopes", id("a", 0, 1), id("a", 3, 2, 7), true},
		{"the same name, another text", id("a", 0, 1), id("b", 3), true},
		{"the same name, the other way round", id("b", 0), id("a", 3, 2), true},
		{"another name", id("b", 0), id("c", 3), false},
		{"a name and nothing", id("a", 0, 1), id("a", 3), false},
		{"nothing and a name", id("a", 0), id("a", 3, 1), false},
		{"nothing both, the same text", id("a", 0), id("a", 3, 9), true},
		{"nothing both, another text", id("x", 0), id("y", 3), false},
		{"two that fit, none nearer", id("a", 0, 1, 2), id("a", 3, 1, 2), false},
		{"two that fit, and a name", id("a", 0, 1, 2), id("a", 3, 1), false},
		{"a name, and two that fit", id("a", 0, 1), id("a", 3, 1, 2), false},
		{"two that fit, and nothing", id("a", 0, 1, 2), id("a", 3), false},
		{"an empty name, both", id("d", 0), id("e", 3, 5), true},
		{"an empty name, and nothing", id("e", 0, 5), id("e", 3), false},
		{"an atom", id("a", 0), atom("1"), false},
		{"a list", id("a", 0), list(id("a", 0)), false},
	} {
		got, ok := impl.ExpMatch(list(c.literal, id("z", 9)), []impl.ExpForm{c.literal}, list(c.id, atom("5")), binds)
		if ok != c.want || ok && showGots(got) != "z=5" || !ok && len(got) > 0 {
			t.Errorf("%s: %v, %s", c.what, ok, showGots(got))
		}
	}
}

func TestMatchTakesTheSameAsLiteralsAlone(t *testing.T) {
	got, ok := impl.ExpMatch(list(id("a", 1), id("a", 2, 1)), []impl.ExpForm{id("a", 7, 1)}, list(atom("1"), id("a", 3)), nil)
	if !ok || len(got) != 1 || !sameGot(got[0], impl.ExpGot{Name: id("a", 1), Form: atom("1")}) {
		t.Errorf("a literal with scopes: %v, %s", ok, showGots(got))
	}
}

// A name is told as it stands in the pattern, and what it gets as it stands in the form.
func TestMatchTellsWhole(t *testing.T) {
	x, y, z := id("x", 1, 4), id("y", 2, 0, 9), id("x", 3)
	got, ok := impl.ExpMatch(dots(list(x, id("...", 5)), id("...", 6, 2), y, z), nil, dots(list(id("p", 7, 1), list(id("q", 8))), list(), id("r", 9, 2), id("s", 10, 3)), nil)
	want := []impl.ExpGot{
		{Name: x, Deep: 2, Many: []impl.ExpGot{
			{Name: x, Deep: 1, Many: []impl.ExpGot{{Name: x, Form: id("p", 7, 1)}, {Name: x, Form: list(id("q", 8))}}},
			{Name: x, Deep: 1},
		}},
		{Name: y, Form: id("r", 9, 2)},
		{Name: z, Form: id("s", 10, 3)},
	}
	if !ok || !sameGots(got, want) {
		t.Errorf("%v, %s", ok, showGots(got))
	}
}

func TestMatchAsksForForms(t *testing.T) {
	for what, f := range someNotOk() {
		for _, p := range []impl.ExpForm{id("a", 1), id("_", 1), list(id("a", 1), id("...", 2)), dots(id("a", 1), id("...", 2), id("b", 3))} {
			if got, ok := impl.ExpMatch(p, nil, f, nil); ok || len(got) > 0 {
				t.Errorf("%s of %s: %v", impl.ExpShow(p), what, ok)
			}
		}
	}
	for _, f := range someOk() {
		got, ok := impl.ExpMatch(id("a", 1), nil, f, nil)
		if !ok || len(got) != 1 || !sameGot(got[0], impl.ExpGot{Name: id("a", 1), Form: f}) {
			t.Errorf("a of %.60s: %v", impl.ExpShow(f), ok)
		}
	}
}

// Names are told as often as the document says, also where a pattern with many of them stands for forms without parts.
func TestMatchOfManyNames(t *testing.T) {
	m := matchMaker{}
	var names []impl.ExpForm
	for range 300 {
		names = append(names, m.name())
	}
	p := list(dots(list(names...), id("...", 1), id("end", 1)), id("...", 1))
	got, ok := impl.ExpMatch(p, nil, list(slices.Repeat([]impl.ExpForm{atom("1")}, 300)...), nil)
	if !ok || len(got) != 301 || len(got[299].Many) != 300 || !sameGot(got[299].Many[299], impl.ExpGot{Name: names[299], Deep: 1}) {
		t.Errorf("%v, %d names", ok, len(got))
	}
	deep := nested(impl.ExpMaxDeep-1, list(id("a", 1), id("...", 2)))
	for i := range impl.ExpMaxDeep - 1 {
		deep = repeatedWithin(deep, i)
	}
	got, ok = impl.ExpMatch(deep, nil, nested(impl.ExpMaxDeep, atom("5")), nil)
	if !ok || len(got) != 1 || !sameGot(got[0], gotDeep(id("a", 1), atom("5"), impl.ExpMaxDeep)) {
		t.Errorf("in as many repeated parts as may be: %v, %s", ok, showGots(got))
	}
}

// repeatedWithin is a form with dots behind the first part of the list that is so many lists within it.
func repeatedWithin(f impl.ExpForm, lists int) impl.ExpForm {
	if lists == 0 {
		return list(append(slices.Clone(f.Kids), id("...", 3))...)
	}
	return list(append([]impl.ExpForm{repeatedWithin(f.Kids[0], lists-1)}, f.Kids[1:]...)...)
}

func TestMatchOfMadeForms(t *testing.T) {
	m := matchMaker{formMaker: formMaker{state: 5}}
	binds := []impl.ExpBind{{Text: "else", Scopes: []int{2}, Name: "E"}, {Text: "=>", Scopes: []int{1}, Name: "E"}}
	met := map[bool]int{}
	for i := range 4000 {
		p := m.pattern(3, true)
		f := m.matching(p)
		if i%2 == 0 {
			f = m.matching(m.near(p))
		}
		if !impl.ExpPatternOk(p, someLiterals()) || !impl.ExpFormOk(f) {
			t.Fatalf("%s: made wrongly", impl.ExpShow(p))
		}
		want, matches := wantMatch(p, someLiterals(), f, comparingBy(binds))
		if !matches {
			want = nil
		}
		met[matches]++
		got, ok := impl.ExpMatch(p, someLiterals(), f, binds)
		if ok != matches || !sameGots(got, want) {
			t.Fatalf("%s of %s: %v, %s; want %v, %s", impl.ExpShow(p), impl.ExpShow(f), ok, showGots(got), matches, showGots(want))
		}
	}
	if met[true] < 500 || met[false] < 500 {
		t.Errorf("too few of one kind: %v", met)
	}
}

// near is a pattern that is nearly the same: a part is another one, or there is one more or less.
func (m *matchMaker) near(p impl.ExpForm) impl.ExpForm {
	if !isAnyList(p) || m.below(4) == 0 {
		return []impl.ExpForm{atom("7"), id("else", 1, 2), id("=>", 1), list(), m.name(), p}[m.below(6)]
	}
	parts, end := partsAndEnd(p)
	parts = slices.Clone(parts)
	switch at := m.below(len(parts) + 1); {
	case at == len(parts) && len(end) > 0 && at > 0:
		return list(parts...)
	case at == len(parts):
		parts = append(parts, m.name())
	case isDotsId(parts[at]) || m.below(3) == 0:
		parts = slices.Delete(parts, at, at+1)
	default:
		parts[at] = m.near(parts[at])
	}
	for len(parts) > 0 && isDotsId(parts[0]) {
		parts = parts[1:]
	}
	return joined(parts, end)
}

// P4: what a pattern without literals and blanks, and in which each repeated part has a name, matches, ExpFill of it makes again.
func TestFillOfAPatternMakesWhatItMatched(t *testing.T) {
	m := matchMaker{formMaker: formMaker{state: 7}}
	for range 3000 {
		p := m.pattern(3, false)
		f := m.matching(p)
		got, matches := impl.ExpMatch(p, nil, f, nil)
		made, ok := impl.ExpFill(p, got)
		if !matches || !ok || !sameForm(made, f) {
			t.Fatalf("%s of %s: %v, %v, %s", impl.ExpShow(p), impl.ExpShow(f), matches, ok, impl.ExpShow(made))
		}
	}
	for _, c := range []struct{ pattern, form string }{
		{"a", "(x . 1)"}, {"(a ... . b)", "5"}, {"(a ... . b)", "()"}, {"(a ... . b)", "(1 2)"}, {"(a ... . b)", "(1 2 . c)"}, {"((a b ...) ...)", "()"}, {"(((a ...) ...) ...)", "(((1 2) ()) ())"}, {"(a (b ... c) ... d)", "(1 (2) (3 4 5) 6)"}, {"(1 #t \"s\" . a)", "(1 #t \"s\" 2)"},
	} {
		p, f := read(c.pattern), read(c.form)
		got, matches := impl.ExpMatch(p, nil, f, nil)
		made, ok := impl.ExpFill(p, got)
		if !matches || !ok || !sameForm(made, f) {
			t.Errorf("%s of %s: %v, %v, %s", c.pattern, c.form, matches, ok, impl.ExpShow(made))
		}
	}
}

// P4, where the form meets the limits.
func TestFillOfAPatternMakesGreatForms(t *testing.T) {
	for _, p := range []impl.ExpForm{id("a", 1), read("(a ...)"), read("(a . b)"), read("(a ... . b)")} {
		for _, f := range []impl.ExpForm{wide(impl.ExpMaxForms), wideDots(impl.ExpMaxForms), list(nested(impl.ExpMaxDeep-1, list()), atom("1")), dots(nested(impl.ExpMaxDeep-1, id("x", 1, 2)), atom("1"))} {
			got, matches := impl.ExpMatch(p, nil, f, nil)
			if made, ok := impl.ExpFill(p, got); matches && (!ok || !sameForm(made, f)) {
				t.Errorf("%s of %.60s: %v", impl.ExpShow(p), impl.ExpShow(f), ok)
			}
		}
	}
}

func TestMatchLeavesWhatIsHandedIn(t *testing.T) {
	m := matchMaker{formMaker: formMaker{state: 11}}
	binds := []impl.ExpBind{{Text: "else", Scopes: []int{3, 1, 1}, Name: "E"}, {Text: "=>", Scopes: []int{1}, Name: "F"}}
	for range 300 {
		p := m.pattern(3, true)
		f := m.matching(p)
		literals := someLiterals()
		roomP, roomF, roomLiterals, roomBinds := roomy(p), roomy(f), roomyForms(literals), roomyBinds(binds)
		got, _ := impl.ExpMatch(roomP, roomLiterals, roomF, roomBinds)
		impl.ExpPatternOk(roomP, roomLiterals)
		if !staysRoomy(roomP, p) || !staysRoomy(roomF, f) || !staysRoomyForms(roomLiterals, literals) || !staysRoomyBinds(roomBinds, binds) {
			t.Fatalf("%s of %s: something handed in was changed", impl.ExpShow(p), impl.ExpShow(f))
		}
		given := slices.Concat(blocksWithin(roomP), blocksWithin(roomF), blocksOf(roomLiterals), blocksOfBinds(roomBinds))
		demandOwnBlocks(t, impl.ExpShow(p), blocksOfGots(got), given)
	}
}

package tests

import (
	"runtime"
	"slices"
	"testing"

	"loop.example/siskin/impl"
)

func TestFill(t *testing.T) {
	for _, c := range []struct{ pattern, form, template, want string }{
		{"a", "1", "a", "1"}, {"a", "(1 . x)", "a", "(1 . x)"}, {"a", "1", "b", "b"}, {"a", "1", "7", "7"}, {"a", "1", "()", "()"}, {"a", "1", "(a b (a) . a)", "(1 b (1) . 1)"}, {"_", "1", "_", "_"},
		{"(a b)", "(1 (2 3))", "(a . b)", "(1 2 3)"}, {"(a b)", "(1 (2 . x))", "(a . b)", "(1 2 . x)"}, {"(a b)", "(1 ())", "(a . b)", "(1)"}, {"(a b)", "(1 2)", "(a . b)", "(1 . 2)"}, {"(a b)", "((1) x)", "((a . b) . b)", "(((1) . x) . x)"},
		{"(a ...)", "(1 2)", "(a ...)", "(1 2)"}, {"(a ...)", "()", "(a ...)", "()"}, {"(a ...)", "(1 2)", "(x a ... y)", "(x 1 2 y)"}, {"(a ...)", "(1 2)", "((a) ...)", "((1) (2))"}, {"(a ...)", "(1 2)", "((x . a) ...)", "((x . 1) (x . 2))"}, {"(a ...)", "((1) 2)", "((x . a) ...)", "((x 1) (x . 2))"}, {"(a ...)", "(1 2)", "(a ... a ...)", "(1 2 1 2)"}, {"(a ...)", "(1 2)", "((a a) ...)", "((1 1) (2 2))"},
		{"(a b ...)", "(1 2 3)", "((a b) ...)", "((1 2) (1 3))"}, {"(a b ...)", "(1)", "((a b) ...)", "()"}, {"((a b) ...)", "((1 2) (3 4))", "((a ...) b ...)", "((1 3) 2 4)"}, {"((a b) ...)", "((1 2) (3 4))", "((b a) ...)", "((2 1) (4 3))"},
		{"(a ... . b)", "5", "(a ... . b)", "5"}, {"(a ... . b)", "5", "((a ... . b) x)", "(5 x)"}, {"(a ... . b)", "()", "(x (a ... . b))", "(x ())"}, {"(b a ...)", "((1 2))", "(a ... . b)", "(1 2)"}, {"(b a ...)", "((1 . 2))", "(a ... . b)", "(1 . 2)"}, {"(b a ...)", "((1 . 2) 0)", "(a ... . b)", "(0 1 . 2)"}, {"(a ...)", "()", "(a ... . x)", "x"}, {"(a ...)", "(1)", "(a ... . x)", "(1 . x)"}, {"(a ...)", "()", "(a ... . 5)", "5"}, {"(b a ...)", "(() 1)", "(a ... . b)", "(1)"},
		{"((a b ...) ...)", "((1 2 3) (4))", "((b ... a) ...)", "((2 3 1) (4))"}, {"((a b ...) ...)", "((1 2 3) (4) (5 6))", "(b ... ...)", "(2 3 6)"}, {"((a b ...) ...)", "((1 2 3) (4))", "(((a b) ...) ...)", "(((1 2) (1 3)) ())"}, {"((a b ...) ...)", "((1 2 3) (4 5))", "((a b) ... ...)", "((1 2) (1 3) (4 5))"}, {"((a ...) ...)", "((1 2) () (3))", "((x a ...) ...)", "((x 1 2) (x) (x 3))"}, {"((a ...) ...)", "((1 2) () (3))", "((x a) ... ...)", "((x 1) (x 2) (x 3))"},
		{"(((a ...) ...) ...)", "(((1 2) (3)) () ((4)))", "(a ... ... ...)", "(1 2 3 4)"}, {"(((a ...) ...) ...)", "(((1 2) (3)) () ((4)))", "((a ... ...) ...)", "((1 2 3) () (4))"}, {"(((a ...) ...) ...)", "(((1 2) (3)) () ((4)))", "((a ...) ... ...)", "((1 2) (3) (4))"},
		{"a", "1", "...", "..."}, {"a", "1", "(a . ...)", "(1 . ...)"}, {"a", "1", "(... ...)", "..."}, {"a", "1", "(... a)", "1"}, {"a", "1", "(... (a ... . a))", "(1 ... . 1)"}, {"a", "1", "(... (... a))", "(... 1)"}, {"a", "1", "(... (... ...))", "(... ...)"}, {"a", "1", "(... (x ... y ...))", "(x ... y ...)"}, {"a", "1", "(... (... a b))", "(... 1 b)"}, {"a", "1", "((... ...) a)", "(... 1)"}, {"a", "1", "(a (... ...))", "(1 ...)"}, {"a", "1", "(... (a (b ...)))", "(1 (b ...))"},
		{"(a ...)", "(1 2)", "((... a) ...)", "(1 2)"}, {"(a ...)", "(1 2)", "((... (a ...)) ...)", "((1 ...) (2 ...))"}, {"(a ...)", "(1 2)", "((a (... ...)) ...)", "((1 ...) (2 ...))"}, {"(a ...)", "(1 2)", "((a _) ...)", "((1 _) (2 _))"},
	} {
		got, _ := impl.ExpMatch(read(c.pattern), nil, read(c.form), nil)
		made, ok := impl.ExpFill(read(c.template), got)
		if ok != (c.want != "") || impl.ExpShow(made) != c.want || !ok && !isNothing(made) {
			t.Errorf("%s with %s: %v, %s; want %s", c.template, showGots(got), ok, impl.ExpShow(made), c.want)
		}
	}
}

func TestFillNot(t *testing.T) {
	for _, c := range []struct{ pattern, form, template string }{
		{"(a ...)", "(1)", "a"}, {"(a ...)", "(1)", "(a)"}, {"(a ...)", "()", "(a)"}, {"(a ...)", "(1)", "(x . a)"}, {"((a ...) ...)", "((1))", "(a ...)"}, {"((a ...) ...)", "((1))", "((x . a) ...)"}, {"(a ...)", "(1)", "(... a)"}, {"(a ...)", "(1)", "(... (a ...))"},
		{"(a ...)", "(1)", "(x ...)"}, {"a", "1", "(a ...)"}, {"a", "1", "(1 ...)"}, {"a", "1", "(() ...)"}, {"(a ...)", "(1)", "(_ ...)"}, {"(a ...)", "(1)", "((x) ... a ...)"}, {"(a ...)", "(1)", "(a ... ...)"}, {"((a ...) ...)", "((1))", "(a ... ... ...)"}, {"(a ...)", "(1)", "((a ...) ...)"}, {"(a ...)", "(1)", "((... ...) ...)"}, {"(a b ...)", "(1 2)", "((b (a ...)) ...)"},
		{"((a ...) b ...)", "((1 2) 3)", "((a b) ...)"}, {"((a ...) b ...)", "(() 3)", "((a b) ...)"}, {"((a ...) b ...)", "((1))", "((a . b) ...)"}, {"(((a b ...) ...) c ...)", "(((1 2) (3 4)) 5)", "((a (b ...) c) ...)"}, {"(((a ...) (b ...)) ...)", "(((1) (2)) ((3) ()))", "(((a b) ...) ...)"},
		{"a", "1", "(...)"}, {"a", "1", "(... . a)"}, {"a", "1", "(... a b)"}, {"a", "1", "(... a . b)"}, {"a", "1", "(... ... ...)"}, {"(a ...)", "(1)", "(... a ...)"}, {"a", "1", "((...))"}, {"a", "1", "(x (...))"}, {"(a ...)", "(1)", "((... a b) ...)"}, {"a", "1", "(... . ...)"},
	} {
		got, matches := impl.ExpMatch(read(c.pattern), nil, read(c.form), nil)
		made, ok := impl.ExpFill(read(c.template), got)
		if !matches || ok || !isNothing(made) {
			t.Errorf("%s with %s: %v, %s", c.template, showGots(got), ok, impl.ExpShow(made))
		}
	}
}

// What is repeated no time is not made, whatever it is.
func TestFillOfNoTimes(t *testing.T) {
	for _, template := range []string{"(a ...)", "((a (x ...)) ...)", "((a ...) ...)", "((... a b) ...)", "(a ... ...)", "((a b) ...)"} {
		made, ok := impl.ExpFill(read(template), []impl.ExpGot{gotMany(id("a", 0)), gotMany(id("b", 0))})
		if !ok || impl.ExpShow(made) != "()" {
			t.Errorf("%s: %v, %s", template, ok, impl.ExpShow(made))
		}
	}
}

func TestFillLooksAtScopes(t *testing.T) {
	gots := []impl.ExpGot{got(id("a", 5, 1), atom("1")), got(id("a", 0), atom("2")), gotAll(id("b", 5, 1, 2), "3 4")}
	template := dots(id("a", 7), id("a", 8, 1), id("a", 9, 2), id("b", 1, 1, 2), id("...", 2, 6), id("b", 3, 1), id("b", 4))
	made, ok := impl.ExpFill(template, gots)
	want := dots(atom("2"), atom("1"), id("a", 9, 2), atom("3"), atom("4"), id("b", 3, 1), id("b", 4))
	if !ok || !sameForm(made, want) {
		t.Errorf("%v, %s", ok, impl.ExpShow(made))
	}
	if _, ok := impl.ExpFill(list(id("b", 1, 1), id("...", 2)), gots); ok {
		t.Error("an identifier of other scopes is repeated")
	}
}

func TestFillTakesTheFirstOfOneName(t *testing.T) {
	a := id("a", 0)
	for _, c := range []struct {
		gots           []impl.ExpGot
		template, want string
	}{
		{[]impl.ExpGot{got(a, atom("1")), got(id("a", 3), atom("2"))}, "(a a)", "(1 1)"},
		{[]impl.ExpGot{got(a, atom("1")), gotAll(a, "2 3")}, "a", "1"},
		{[]impl.ExpGot{got(a, atom("1")), gotAll(a, "2 3")}, "(a ...)", ""},
		{[]impl.ExpGot{gotAll(a, "2 3"), got(a, atom("1"))}, "(a ...)", "(2 3)"},
		{[]impl.ExpGot{gotAll(a, "2 3"), got(a, atom("1"))}, "a", ""},
		{[]impl.ExpGot{gotAll(a, "2 3"), gotAll(a, "1")}, "((a a) ...)", "((2 2) (3 3))"},
	} {
		made, ok := impl.ExpFill(read(c.template), c.gots)
		if ok != (c.want != "") || impl.ExpShow(made) != c.want {
			t.Errorf("%s with %s: %v, %s", c.template, showGots(c.gots), ok, impl.ExpShow(made))
		}
	}
}

// What a name has got each time counts under its own name, whatever the Names within are.
func TestFillTakesOwnNames(t *testing.T) {
	a := gotMany(id("a", 0), got(id("b", 0), atom("1")), got(id("c", 0), atom("2")))
	deep := gotMany(id("d", 0), gotMany(id("a", 0), got(id("a", 0), atom("3"))), gotMany(id("e", 0), got(id("b", 0), atom("4"))))
	gots := []impl.ExpGot{a, deep, got(id("b", 0), atom("7"))}
	made, ok := impl.ExpFill(read("((a b c d ... e) ...)"), gots)
	if !ok || impl.ExpShow(made) != "((1 7 c 3 e) (2 7 c 4 e))" {
		t.Errorf("%v, %s", ok, impl.ExpShow(made))
	}
}

// Dots and blanks may have got something, but are no names of what is repeated.
func TestFillOfDotsAndBlanksThatGotSomething(t *testing.T) {
	once := []impl.ExpGot{got(id("_", 0), atom("1")), got(id("...", 0), atom("2")), gotAll(id("a", 0), "3 4")}
	many := []impl.ExpGot{gotAll(id("_", 0), "1"), gotAll(id("...", 0), "2"), gotAll(id("a", 0), "3")}
	for _, c := range []struct {
		gots           []impl.ExpGot
		template, want string
	}{
		{once, "_", "1"}, {once, "...", "2"}, {once, "(_ . ...)", "(1 . 2)"}, {once, "(... (... x ...))", "(2 x 2)"}, {once, "((_ a) ...)", "((1 3) (1 4))"}, {once, "(a ... . _)", "(3 4 . 1)"}, {once, "((... (... a)) ...)", "((2 3) (2 4))"},
		{many, "(_ ...)", ""}, {many, "_", ""}, {many, "...", ""}, {many, "((_ a) ...)", ""}, {many, "(a ...)", "(3)"}, {many, "((... ...) ...)", ""},
	} {
		made, ok := impl.ExpFill(read(c.template), c.gots)
		if ok != (c.want != "") || impl.ExpShow(made) != c.want {
			t.Errorf("%s with %s: %v, %s", c.template, showGots(c.gots), ok, impl.ExpShow(made))
		}
	}
}

func TestFillAsksForTemplates(t *testing.T) {
	for what, f := range someNotOk() {
		if made, ok := impl.ExpFill(f, nil); ok || !isNothing(made) {
			t.Errorf("template %s: %v", what, ok)
		}
	}
}

func TestFillAsksForGot(t *testing.T) {
	a := id("a", 1)
	many := impl.ExpGot{Name: a, Deep: 1}
	within := []impl.ExpGot{{Name: a, Deep: 1}}
	within[0].Many = within
	wrong := map[string]impl.ExpGot{
		"nothing": {}, "no Name": {Form: a}, "no Form": {Name: a}, "Deep below 0": {Name: a, Deep: -1, Form: a}, "Deep below 0 and Many": {Name: a, Deep: -1, Many: []impl.ExpGot{{Name: a, Deep: -2}}},
		"Deep past the limit": {Name: a, Deep: impl.ExpMaxDeep + 1}, "Deep past the limit, with Many": gotDeep(a, a, impl.ExpMaxDeep+1),
		"Deep 0 with Many": {Name: a, Form: a, Many: []impl.ExpGot{got(a, a)}}, "Deep 0 with Many of Deep -1": {Name: a, Form: a, Many: []impl.ExpGot{{Name: a, Deep: -1, Form: a}}},
		"Many of the same Deep": {Name: a, Deep: 1, Many: []impl.ExpGot{many}}, "Many of a Deep two less": {Name: a, Deep: 2, Many: []impl.ExpGot{got(a, a)}}, "Many of unlike Deep": {Name: a, Deep: 2, Many: []impl.ExpGot{many, got(a, a)}}, "Many of a greater Deep": {Name: a, Deep: 1, Many: []impl.ExpGot{{Name: a, Deep: 2}}},
		"a Name within that is none": gotMany(a, got(a, a), got(atom("1"), a)), "a Form within that is none": gotMany(a, gotMany(a, got(a, a)), gotMany(a, impl.ExpGot{Name: a})), "one within itself": within[0],
		"a Name that is an atom": got(atom("1"), a), "a Name that is a list": got(list(a), a), "a Name that is no part": got(list(), a),
	}
	for what, f := range someNotOk() {
		wrong["Name "+what] = got(f, a)
		wrong["Form "+what] = got(a, f)
		wrong["Form within "+what] = gotMany(a, got(a, a), got(a, f))
	}
	for what, g := range wrong {
		for _, template := range []string{"a", "x", "(a ...)", "()"} {
			if made, ok := impl.ExpFill(read(template), []impl.ExpGot{got(id("z", 1), a), g}); ok || !isNothing(made) {
				t.Errorf("%s with %s: %v", template, what, ok)
			}
		}
	}
	if _, ok := impl.ExpFill(read("x"), []impl.ExpGot{{Name: a, Deep: 1, Form: impl.ExpForm{Sort: 9}}, gotDeep(a, a, impl.ExpMaxDeep), {Name: a, Deep: impl.ExpMaxDeep}}); !ok {
		t.Error("got is not ok at the limit, or of a Form that does not count")
	}
}

// atoms is so many atoms that a name got, one each time.
func atoms(name string, many int) impl.ExpGot {
	return gotMany(id(name, 0), slices.Repeat([]impl.ExpGot{got(id(name, 0), atom("1"))}, many)...)
}

func TestFillLimits(t *testing.T) {
	form := func(name string, f impl.ExpForm) impl.ExpGot { return got(id(name, 0), f) }
	most := impl.ExpMaxForms
	half := most / 2
	deepest := impl.ExpMaxDeep
	for _, c := range []struct {
		template impl.ExpForm
		gots     []impl.ExpGot
		want     bool
	}{
		{read("a"), []impl.ExpGot{form("a", wide(most))}, true},
		{read("(a b)"), []impl.ExpGot{form("a", wide(half)), form("b", wide(half-1))}, true},
		{read("(a b)"), []impl.ExpGot{form("a", wide(half)), form("b", wide(half))}, false},
		{read("(x . a)"), []impl.ExpGot{form("a", wide(most-1))}, true},
		{read("(x . a)"), []impl.ExpGot{form("a", wide(most))}, false},
		{read("(x . a)"), []impl.ExpGot{form("a", wideDots(most-1))}, true},
		{read("(x . a)"), []impl.ExpGot{form("a", wideDots(most))}, false},
		{read("((x . a))"), []impl.ExpGot{form("a", wide(most-2))}, true},
		{read("((x . a))"), []impl.ExpGot{form("a", wide(most-1))}, false},
		{read("(a ...)"), []impl.ExpGot{atoms("a", most-1)}, true},
		{read("(a ...)"), []impl.ExpGot{atoms("a", most)}, false},
		{read("(a ... . x)"), []impl.ExpGot{atoms("a", most-2)}, true},
		{read("(a ... . x)"), []impl.ExpGot{atoms("a", most-1)}, false},
		{read("(a ... . b)"), []impl.ExpGot{atoms("a", 0), form("b", wide(most))}, true},
		{read("((x . a) ...)"), []impl.ExpGot{atoms("a", (most-1)/3)}, true},
		{read("((x . a) ... y)"), []impl.ExpGot{atoms("a", (most-1)/3)}, true},
		{read("((x . a) ... y z)"), []impl.ExpGot{atoms("a", (most-1)/3)}, true},
		{read("((x . a) ... y z z)"), []impl.ExpGot{atoms("a", (most-1)/3)}, false},
		{read("((a () a) ...)"), []impl.ExpGot{atoms("a", 200000)}, false},
		{nested(deepest, id("a", 0)), []impl.ExpGot{form("a", list())}, true},
		{nested(deepest, id("a", 0)), []impl.ExpGot{form("a", list(atom("1")))}, false},
		{nested(deepest, id("a", 0)), []impl.ExpGot{form("a", dots(atom("1"), atom("1")))}, false},
		{read("a"), []impl.ExpGot{form("a", nested(deepest, atom("1")))}, true},
		{read("(a)"), []impl.ExpGot{form("a", nested(deepest-1, atom("1")))}, true},
		{read("(a)"), []impl.ExpGot{form("a", nested(deepest, atom("1")))}, false},
		{read("(x . a)"), []impl.ExpGot{form("a", nested(deepest, atom("1")))}, true},
		{read("(a . x)"), []impl.ExpGot{form("a", nested(deepest, atom("1")))}, false},
		{read("(a ...)"), []impl.ExpGot{gotMany(id("a", 0), form("a", nested(deepest, atom("1"))))}, false},
		{read("((x) (... a))"), []impl.ExpGot{form("a", nested(deepest-1, atom("1")))}, true},
	} {
		made, ok := impl.ExpFill(c.template, c.gots)
		if ok != c.want || ok != impl.ExpFormOk(made) || !ok && !isNothing(made) {
			t.Errorf("%.60s: %v, %.60s", impl.ExpShow(c.template), ok, impl.ExpShow(made))
		}
	}
}

// Of a template that comes to far too much no more is made than tells so.
func TestFillEndsAtWhatIsTooMuch(t *testing.T) {
	template := list(list(slices.Repeat([]impl.ExpForm{id("a", 0)}, impl.ExpMaxForms-10)...), id("...", 0))
	gots := []impl.ExpGot{atoms("a", 20000)}
	var ahead, behind runtime.MemStats
	runtime.ReadMemStats(&ahead)
	_, ok := impl.ExpFill(template, gots)
	runtime.ReadMemStats(&behind)
	if took := behind.TotalAlloc - ahead.TotalAlloc; ok || took > 1e8 {
		t.Errorf("%v, and it took %d bytes", ok, took)
	}
}

func TestFillOfAsManyDotsAsMayBe(t *testing.T) {
	template := list(append([]impl.ExpForm{id("a", 0)}, slices.Repeat([]impl.ExpForm{id("...", 0)}, impl.ExpMaxDeep)...)...)
	made, ok := impl.ExpFill(template, []impl.ExpGot{gotDeep(id("a", 0), atom("5"), impl.ExpMaxDeep)})
	if !ok || impl.ExpShow(made) != "(5)" {
		t.Errorf("%v, %s", ok, impl.ExpShow(made))
	}
	made, ok = impl.ExpFill(template, []impl.ExpGot{gotDeep(id("a", 0), atom("5"), impl.ExpMaxDeep-1)})
	if ok || !isNothing(made) {
		t.Errorf("one less: %v, %s", ok, impl.ExpShow(made))
	}
}

// template is a template for names that got something, with dots anywhere.
func (m *matchMaker) template(deep int) impl.ExpForm {
	switch kind := m.below(10); {
	case deep == 0 || kind < 4:
		return id([]string{"a", "b", "c", "d", "x"}[m.below(5)], m.below(3), slices.Repeat([]int{1}, m.below(8)/7)...)
	case kind == 4:
		return atom("7")
	case kind == 5:
		return id([]string{"...", "_"}[m.below(2)], 0)
	case kind == 6:
		return list(id("...", 0), m.template(deep-1))
	}
	var parts []impl.ExpForm
	for range m.below(4) {
		parts = append(parts, m.template(deep-1))
		for m.below(3) == 0 {
			parts = append(parts, id("...", 0))
		}
	}
	if len(parts) > 0 && m.below(3) == 0 {
		return dots(append(parts, id([]string{"a", "b", "x"}[m.below(3)], 4))...)
	}
	return list(parts...)
}

// gots is what names got, mostly as often as each other.
func (m *matchMaker) gots() []impl.ExpGot {
	times := m.below(3)
	var all []impl.ExpGot
	for _, name := range []string{"a", "b", "c", "d", "a"} {
		if m.below(5) > 0 {
			all = append(all, m.got(id(name, 0), m.below(3), times))
		}
	}
	if m.below(8) == 0 {
		all = append(all, m.got(id("_", 0), m.below(2), times))
	}
	return all
}

func (m *matchMaker) got(name impl.ExpForm, deep, times int) impl.ExpGot {
	g := impl.ExpGot{Name: name, Deep: deep}
	if deep == 0 {
		g.Form = m.form(1)
		return g
	}
	if m.below(6) == 0 {
		times++
	}
	for range times {
		g.Many = append(g.Many, m.got(name, deep-1, times))
	}
	return g
}

func hasDots(f impl.ExpForm) bool {
	return slices.ContainsFunc(identifiers(f), isDotsId)
}

// P5: what ExpFill makes is ok; without got it is the template, if that has no dots.
func TestFillOfMadeForms(t *testing.T) {
	m := matchMaker{formMaker: formMaker{state: 13}}
	met := map[bool]int{}
	for range 6000 {
		template, gots := m.template(3), m.gots()
		want, can := wantFill(template, gots, false)
		if !can {
			want = impl.ExpForm{}
		}
		met[can]++
		made, ok := impl.ExpFill(template, gots)
		if ok != can || !sameForm(made, want) || ok != impl.ExpFormOk(made) {
			t.Fatalf("%s with %s: %v, %s; want %v, %s", impl.ExpShow(template), showGots(gots), ok, impl.ExpShow(made), can, impl.ExpShow(want))
		}
	}
	if met[true] < 1000 || met[false] < 1000 {
		t.Errorf("too few of one kind: %v", met)
	}
}

func TestFillWithoutGotIsTheTemplate(t *testing.T) {
	tried := 0
	for _, f := range someOk() {
		if hasDots(f) {
			continue
		}
		tried++
		made, ok := impl.ExpFill(f, nil)
		if !ok || !sameForm(made, f) {
			t.Errorf("%.60s: %v, %.60s", impl.ExpShow(f), ok, impl.ExpShow(made))
		}
	}
	if tried < 100 {
		t.Errorf("only %d tried", tried)
	}
}

func TestFillLeavesWhatIsHandedIn(t *testing.T) {
	m := matchMaker{formMaker: formMaker{state: 17}}
	for range 500 {
		template, gots := m.template(3), m.gots()
		roomTemplate, roomGots := roomy(template), roomyGots(gots)
		made, _ := impl.ExpFill(roomTemplate, roomGots)
		if !staysRoomy(roomTemplate, template) || !staysRoomyGots(roomGots, gots) {
			t.Fatalf("%s with %s: something handed in was changed", impl.ExpShow(template), showGots(gots))
		}
		demandOwnBlocks(t, impl.ExpShow(template), blocksWithin(made), slices.Concat(blocksWithin(roomTemplate), blocksOfGots(roomGots)))
	}
	gots := roomyGots([]impl.ExpGot{got(id("a", 0), list(id("x", 1, 2), list(id("y", 2, 3)))), gotAll(id("b", 0), "(p q) (r)")})
	template := roomy(read("(a a (x . a) b ... (b b) ... . a)"))
	made, ok := impl.ExpFill(template, gots)
	if !ok {
		t.Fatal("not made")
	}
	demandOwnBlocks(t, "names used twice", blocksWithin(made), slices.Concat(blocksWithin(template), blocksOfGots(gots)))
}

package tests

import (
	"slices"
	"testing"

	"loop.example/siskin/impl"
)

func sameMacro(a, b impl.ExpMacro) bool {
	return sameForms(a.Literals, b.Literals) && slices.EqualFunc(a.Rules, b.Rules, func(a, b impl.ExpRule) bool {
		return sameForm(a.Pattern, b.Pattern) && sameForm(a.Template, b.Template)
	})
}

func isNoMacro(m impl.ExpMacro) bool {
	return sameMacro(m, impl.ExpMacro{})
}

func blocksOfMacro(m impl.ExpMacro) []block {
	all := append(blockOf(m.Rules), blocksOf(m.Literals)...)
	for _, r := range m.Rules {
		all = append(append(all, blocksWithin(r.Pattern)...), blocksWithin(r.Template)...)
	}
	return all
}

// rules is a macro of texts: its literals, and patterns and templates, one behind the other.
func rules(literals string, rest ...string) impl.ExpMacro {
	m := impl.ExpMacro{Literals: readAll(literals)}
	for i := 0; i < len(rest); i += 2 {
		m.Rules = append(m.Rules, impl.ExpRule{Pattern: read(rest[i]), Template: read(rest[i+1])})
	}
	return m
}

func TestRulesTellsWhole(t *testing.T) {
	f := list(id("syntax-rules", 1, 4), list(id("else", 2, 1), id("=>", 3), id("else", 4, 1)),
		list(list(id("m", 5, 7), id("x", 6, 8), id("else", 7, 1), id("else", 8, 1)), dots(id("x", 9), id("m", 10))),
		list(dots(id("x", 11, 2), id("y", 12, 2)), atom("5")),
		list(dots(id("_", 13, 3), id("z", 14, 2), id("...", 15), id("y", 16, 2)), list()))
	m, ok := impl.ExpRules(f)
	want := impl.ExpMacro{
		Literals: []impl.ExpForm{id("else", 2, 1), id("=>", 3), id("else", 4, 1)},
		Rules: []impl.ExpRule{
			{Pattern: list(id("_", 0), id("x", 6, 8), id("else", 7, 1), id("else", 8, 1)), Template: dots(id("x", 9), id("m", 10))},
			{Pattern: dots(id("_", 0), id("y", 12, 2)), Template: atom("5")},
			{Pattern: dots(id("_", 0), id("z", 14, 2), id("...", 15), id("y", 16, 2)), Template: list()},
		},
	}
	if !ok || !sameMacro(m, want) {
		t.Errorf("%v, %v", ok, m)
	}
}

func TestRules(t *testing.T) {
	for _, text := range []string{
		"(syntax-rules ())", "(syntax-rules (a b a))", "(syntax-rules () ((m) 1))", "(syntax-rules () ((_ a) a) ((_ a b) (a b)))", "(syntax-rules () ((_ . a) a))", "(syntax-rules () ((m m) m))", "(syntax-rules () ((m a ... m) m))", "(syntax-rules (m) ((m) m))",
		"(syntax-rules () ((m ... a) a))", "(syntax-rules () ((... a) a))", "(syntax-rules () ((...) 1))", "(syntax-rules () ((... ...) 1))", "(syntax-rules (else) ((_ else else) ...))", "(syntax-rules () ((_ (a ...) (b ... c)) (...)))", "(syntax-rules (syntax-rules) ((syntax-rules) syntax-rules))",
	} {
		if _, ok := impl.ExpRules(read(text)); !ok {
			t.Errorf("%s: no rules", text)
		}
	}
	for _, text := range []string{
		"1", "syntax-rules", "()", "(syntax-rules)", "(syntax-rule ())", "((syntax-rules) ())", "(\"syntax-rules\" ())", "(1 ())", "(syntax-rules . ())", "(syntax-rules () . a)", "(syntax-rules () ((_) 1) . a)", "(syntax-rules . a)",
		"(syntax-rules a)", "(syntax-rules 1)", "(syntax-rules (a . b))", "(syntax-rules (1))", "(syntax-rules ((a)))", "(syntax-rules (a ()))", "(syntax-rules (...))", "(syntax-rules (a _))", "(syntax-rules (a ... b))", "(syntax-rules ((_) 1))",
		"(syntax-rules () 1)", "(syntax-rules () a)", "(syntax-rules () ())", "(syntax-rules () ((_)))", "(syntax-rules () ((_) 1 2))", "(syntax-rules () ((_) 1 . 2))", "(syntax-rules () ((_) . 2))", "(syntax-rules () ((_) 1) ((_)))",
		"(syntax-rules () (a 1))", "(syntax-rules () (1 1))", "(syntax-rules () (() 1))", "(syntax-rules () ((1) 1))", "(syntax-rules () (((a) b) 1))", "(syntax-rules () ((() . a) 1))", "(syntax-rules () ((\"m\") 1))",
		"(syntax-rules () ((_ a a) 1))", "(syntax-rules () ((_ a ... b ...) 1))", "(syntax-rules () ((_ ... ...) 1))", "(syntax-rules () ((_ (... a)) 1))", "(syntax-rules () ((_ . ...) 1))", "(syntax-rules () ((_ a) 1) ((_ b b) 1))", "(syntax-rules () ((_ a . a) 1))", "(syntax-rules (else) ((_ els els) 1))",
	} {
		if m, ok := impl.ExpRules(read(text)); ok || !isNoMacro(m) {
			t.Errorf("%s: %v", text, m)
		}
	}
}

func TestRulesAsksForForms(t *testing.T) {
	for what, f := range someNotOk() {
		for _, rules := range []impl.ExpForm{f, list(id("syntax-rules", 1), list(), list(list(id("_", 1)), f)), list(id("syntax-rules", 1), list(f)), list(id("syntax-rules", 1), list(), list(list(id("_", 1), f), atom("1")))} {
			if m, ok := impl.ExpRules(rules); ok || !isNoMacro(m) {
				t.Errorf("%s: %v", what, ok)
			}
		}
	}
}

func TestRulesLimits(t *testing.T) {
	for _, c := range []struct {
		template impl.ExpForm
		want     bool
	}{{wide(impl.ExpMaxForms - 6), true}, {wide(impl.ExpMaxForms - 5), false}, {nested(impl.ExpMaxDeep-2, list()), true}, {nested(impl.ExpMaxDeep-1, list()), false}} {
		m, ok := impl.ExpRules(list(id("syntax-rules", 1), list(), list(list(id("_", 2)), c.template)))
		if ok != c.want || !ok && !isNoMacro(m) || ok && !sameForm(m.Rules[0].Template, c.template) {
			t.Errorf("%.60s: %v", impl.ExpShow(c.template), ok)
		}
	}
}

func TestRulesLeavesWhatIsHandedIn(t *testing.T) {
	f := list(id("syntax-rules", 1, 1), list(id("else", 2, 3)), list(list(id("_", 3, 9), id("a", 4, 5)), list(id("a", 5, 5), list(id("b", 6)))), list(dots(id("_", 3, 2), id("b", 4, 5)), id("b", 4, 5)))
	room := roomy(f)
	m, ok := impl.ExpRules(room)
	if !ok || !staysRoomy(room, f) {
		t.Errorf("%v, or what was handed in was changed", ok)
	}
	demandOwnBlocks(t, "ExpRules", blocksOfMacro(m), blocksWithin(room))
}

func TestApply(t *testing.T) {
	or := rules("", "(_)", "#f", "(_ a)", "a", "(_ a b ...)", "(let ((t a)) (if t t (or b ...)))")
	cond := rules("else =>", "(_ (else a))", "a", "(_ (a => b) c ...)", "(b a (cond c ...))", "(_ (a b) . c)", "(if a b (cond . c))", "(_ (a ...) ...)", "(a ... ...)")
	for _, c := range []struct {
		macro impl.ExpMacro
		form  string
		code  int
		want  string
	}{
		{or, "(or)", 0, "#f"}, {or, "(or 1)", 0, "1"}, {or, "(1 2)", 0, "2"}, {or, "(or 1 2 3)", 0, "(let ((t 1)) (if t t (or 2 3)))"}, {or, "or", 2, ""}, {or, "1", 2, ""}, {or, "()", 2, ""}, {or, "(or . 1)", 2, ""}, {or, "(or 1 2 . 3)", 2, ""},
		{cond, "(cond (else 1))", 0, "1"}, {cond, "(cond (1 2))", 0, "(if 1 2 (cond))"}, {cond, "(cond (1 2) (3 4))", 0, "(if 1 2 (cond (3 4)))"}, {cond, "(cond (1 2) . 3)", 0, "(if 1 2 (cond . 3))"}, {cond, "(cond (1 => f) (3 4))", 0, "(f 1 (cond (3 4)))"}, {cond, "(cond (1 else f) () (3))", 0, "(1 else f 3)"}, {cond, "(cond)", 0, "()"}, {cond, "(cond 1)", 2, ""},
		{impl.ExpMacro{}, "(m)", 2, ""}, {rules("else"), "(m)", 2, ""},
		{rules("", "a", "(a a)"), "5", 0, "(5 5)"}, {rules("", "a", "(a a)"), "(x)", 0, "((x) (x))"}, {rules("", "7", "8"), "7", 0, "8"}, {rules("", "(m a)", "(m a)"), "(x y)", 0, "(x y)"},
		{rules("", "(_ a ...)", "a"), "(m)", 6, ""}, {rules("", "(_ a)", "(a ...)"), "(m 1)", 6, ""}, {rules("", "(_ a)", "(...)", "(_ a)", "a"), "(m 1)", 6, ""}, {rules("", "(_ (a ...) b ...)", "((a b) ...)"), "(m (1) 2 3)", 6, ""}, {rules("", "(_ (a ...) b ...)", "((a b) ...)"), "(m (1) 2)", 0, "((1 2))"}, {rules("", "(_ a b)", "(...)", "(_ a)", "a"), "(m 1)", 0, "1"},
		{rules("", "(_ a a)", "1", "(_ a b)", "2"), "(m 1 1)", 0, "2"}, {rules("", "...", "1", "(... a)", "2", "_", "3"), "(m 1)", 0, "3"}, {rules("", "(_ a a)", "1"), "(m 1 1)", 2, ""},
		{rules("...", "_", "1"), "(m)", 2, ""}, {rules("_", "a", "1"), "(m)", 2, ""}, {rules("1", "a", "1"), "(m)", 2, ""}, {rules("a (b)", "a", "1"), "(m)", 2, ""},
	} {
		made, code := impl.ExpApply(c.macro, read(c.form), nil)
		if code != c.code || impl.ExpShow(made) != c.want || code != 0 && !isNothing(made) {
			t.Errorf("%v of %s: %d, %s; want %d, %s", c.macro, c.form, code, impl.ExpShow(made), c.code, c.want)
		}
	}
}

func TestApplyLooksAtBinds(t *testing.T) {
	m := impl.ExpMacro{Literals: []impl.ExpForm{id("else", 0)}, Rules: []impl.ExpRule{{Pattern: list(id("_", 0), id("else", 0), id("a", 0)), Template: id("a", 0)}, {Pattern: id("_", 0), Template: atom("0")}}}
	binds := []impl.ExpBind{{Text: "else", Scopes: []int{1}, Name: "x"}, {Text: "other", Scopes: nil, Name: "y"}}
	for _, c := range []struct {
		id    impl.ExpForm
		binds []impl.ExpBind
		want  string
	}{
		{id("else", 3), binds, "5"}, {id("else", 3, 7), binds, "5"}, {id("else", 3, 1), binds, "0"}, {id("else", 3, 1), nil, "5"}, {id("other", 3), binds, "0"}, {id("other", 3), nil, "0"}, {atom("1"), binds, "0"},
	} {
		made, code := impl.ExpApply(m, list(id("m", 1), c.id, atom("5")), c.binds)
		if code != 0 || impl.ExpShow(made) != c.want {
			t.Errorf("%v: %d, %s; want %s", c.id, code, impl.ExpShow(made), c.want)
		}
	}
}

func TestApplyAsksForForms(t *testing.T) {
	any := rules("", "_", "1")
	for what, f := range someNotOk() {
		if made, code := impl.ExpApply(any, f, nil); code != 2 || !isNothing(made) {
			t.Errorf("form %s: %d", what, code)
		}
		m := impl.ExpMacro{Rules: []impl.ExpRule{{Pattern: f, Template: atom("1")}, {Pattern: id("a", 1), Template: atom("2")}}}
		if made, code := impl.ExpApply(m, atom("5"), nil); code != 0 || impl.ExpShow(made) != "2" {
			t.Errorf("pattern %s: %d, %s", what, code, impl.ExpShow(made))
		}
		m = impl.ExpMacro{Rules: []impl.ExpRule{{Pattern: id("a", 1), Template: f}, {Pattern: id("a", 1), Template: atom("2")}}}
		if made, code := impl.ExpApply(m, atom("5"), nil); code != 6 || !isNothing(made) {
			t.Errorf("template %s: %d", what, code)
		}
		m = impl.ExpMacro{Rules: []impl.ExpRule{{Pattern: list(), Template: f}, {Pattern: id("a", 1), Template: atom("2")}}}
		if made, code := impl.ExpApply(m, atom("5"), nil); code != 0 || impl.ExpShow(made) != "2" {
			t.Errorf("template %s of a rule that does not match: %d", what, code)
		}
		m = impl.ExpMacro{Literals: []impl.ExpForm{id("a", 1), f}, Rules: any.Rules}
		if made, code := impl.ExpApply(m, atom("5"), nil); code != 2 || !isNothing(made) {
			t.Errorf("literal %s: %d", what, code)
		}
	}
}

func TestApplyLimits(t *testing.T) {
	m := rules("", "(_ a b ...)", "(b ... . a)")
	for _, c := range []struct {
		form impl.ExpForm
		code int
	}{
		{wide(impl.ExpMaxForms), 0}, {wide(impl.ExpMaxForms + 1), 2}, {list(id("m", 1), nested(impl.ExpMaxDeep-1, atom("1"))), 0}, {list(id("m", 1), nested(impl.ExpMaxDeep, atom("1"))), 2},
	} {
		made, code := impl.ExpApply(m, c.form, nil)
		if code != c.code || (code == 0) != impl.ExpFormOk(made) {
			t.Errorf("%.60s: %d", impl.ExpShow(c.form), code)
		}
	}
	twice := rules("", "(_ a)", "(a a)")
	for _, c := range []struct{ forms, code int }{{(impl.ExpMaxForms - 1) / 2, 0}, {(impl.ExpMaxForms-1)/2 + 1, 6}} {
		made, code := impl.ExpApply(twice, list(id("m", 1), wide(c.forms)), nil)
		if code != c.code || (code == 0) != impl.ExpFormOk(made) {
			t.Errorf("twice %d forms: %d", c.forms, code)
		}
	}
	within := rules("", "(_ . a)", "((a))")
	for _, c := range []struct{ deep, code int }{{impl.ExpMaxDeep - 2, 0}, {impl.ExpMaxDeep - 1, 6}} {
		made, code := impl.ExpApply(within, list(id("m", 1), nested(c.deep-1, atom("1"))), nil)
		if code != c.code || (code == 0) != impl.ExpFormOk(made) {
			t.Errorf("%d within two more: %d", c.deep, code)
		}
	}
}

// P5: ExpApply makes something just with 0; it is what ExpFill makes of the first rule that ExpMatch matches.
func TestApplyOfMadeRules(t *testing.T) {
	m := matchMaker{formMaker: formMaker{state: 19}}
	met := map[int]int{}
	for range 3000 {
		macro := impl.ExpMacro{Literals: someLiterals()}
		var f impl.ExpForm
		for range 3 {
			p := m.pattern(2, true)
			template := m.templateOf(p, 2)
			macro.Rules = append(macro.Rules, impl.ExpRule{Pattern: p, Template: template})
			f = m.matching(p)
		}
		want, wantCode := impl.ExpForm{}, 2
		for _, rule := range macro.Rules {
			if got, ok := impl.ExpMatch(rule.Pattern, macro.Literals, f, nil); ok {
				want, wantCode = impl.ExpForm{}, 6
				if made, ok := impl.ExpFill(rule.Template, got); ok {
					want, wantCode = made, 0
				}
				break
			}
		}
		made, code := impl.ExpApply(macro, f, nil)
		met[code]++
		if code != wantCode || !sameForm(made, want) || (code == 0) == isNothing(made) || code == 0 && !impl.ExpFormOk(made) {
			t.Fatalf("%v of %s: %d, %s; want %d, %s", macro, impl.ExpShow(f), code, impl.ExpShow(made), wantCode, impl.ExpShow(want))
		}
	}
	if met[0] < 300 || met[6] < 300 {
		t.Errorf("too few of one kind: %v", met)
	}
}

// templateOf is a template with names of a pattern, with dots behind some.
func (m *matchMaker) templateOf(p impl.ExpForm, deep int) impl.ExpForm {
	names := append(identifiers(p), id("x", 1))
	if deep == 0 || m.below(3) == 0 {
		return names[m.below(len(names))]
	}
	var parts []impl.ExpForm
	for range 1 + m.below(3) {
		parts = append(parts, m.templateOf(p, deep-1))
		for m.below(3) == 0 {
			parts = append(parts, id("...", 1))
		}
	}
	return list(parts...)
}

func TestApplyLeavesWhatIsHandedIn(t *testing.T) {
	m := matchMaker{formMaker: formMaker{state: 23}}
	binds := []impl.ExpBind{{Text: "else", Scopes: []int{3, 1, 1}, Name: "E"}}
	for range 300 {
		p := m.pattern(2, true)
		template, literals, f := m.templateOf(p, 2), someLiterals(), m.matching(p)
		macro := impl.ExpMacro{Literals: roomyForms(literals), Rules: make([]impl.ExpRule, 1, 3)}
		macro.Rules[0] = impl.ExpRule{Pattern: roomy(p), Template: roomy(template)}
		roomF, roomBinds := roomy(f), roomyBinds(binds)
		made, _ := impl.ExpApply(macro, roomF, roomBinds)
		stays := staysRoomyForms(macro.Literals, literals) && staysRoomy(macro.Rules[0].Pattern, p) && staysRoomy(macro.Rules[0].Template, template) && staysRoomy(roomF, f) && staysRoomyBinds(roomBinds, binds)
		for _, rule := range macro.Rules[1:3] {
			stays = stays && isNothing(rule.Pattern) && isNothing(rule.Template)
		}
		if !stays {
			t.Fatalf("%s of %s: something handed in was changed", impl.ExpShow(p), impl.ExpShow(f))
		}
		demandOwnBlocks(t, "ExpApply", blocksWithin(made), slices.Concat(blocksOfMacro(macro), blocksWithin(roomF), blocksOfBinds(roomBinds)))
	}
}

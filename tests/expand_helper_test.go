package tests

import (
	"slices"
	"strconv"
	"strings"
	"testing"

	"loop.example/siskin/impl"
)

// shown is what an expansion tells: each of Cores, or the fault, with a newline behind.
func shown(r impl.ExpResult) string {
	if r.Fault.Code != 0 {
		return "fault " + strconv.Itoa(r.Fault.Code) + " at " + r.Fault.Text + "\n"
	}
	var out strings.Builder
	for _, c := range r.Cores {
		out.WriteString(impl.ExpCoreShow(c) + "\n")
	}
	return out.String()
}

// lines are texts with a newline behind each.
func lines(all ...string) string {
	return strings.Join(append(all, ""), "\n")
}

// rolesShown tells roles, a letter for the Kind: 1o 2b:x~1 3r:x~1 4q.
func rolesShown(roles []impl.ExpRole) string {
	var all []string
	for _, r := range roles {
		text := strconv.Itoa(r.From) + strconv.Itoa(r.Kind)
		if r.Kind >= impl.ExpBinds && r.Kind <= impl.ExpOther {
			text = strconv.Itoa(r.From) + "brqo"[r.Kind-1:][:1]
		}
		if r.Name != "" {
			text += ":" + r.Name
		}
		all = append(all, text)
	}
	return strings.Join(all, " ")
}

func sameResult(a, b impl.ExpResult) bool {
	return sameCores(a.Cores, b.Cores) && slices.Equal(a.Roles, b.Roles) && a.Fault == b.Fault
}

// demandExpand fails, if forms do not come to what the document's words say, or a promise is broken by what they come to.
func demandExpand(t *testing.T, what string, forms []impl.ExpForm) impl.ExpResult {
	t.Helper()
	got := impl.ExpExpand(forms)
	if want := wantExpand(forms); !sameResult(got, want) {
		t.Errorf("%s:\n%s%s\nand not\n%s%s", what, shown(got), rolesShown(got.Roles), shown(want), rolesShown(want.Roles))
	}
	demandNothingBesideFault(t, what, got)
	return got
}

func demandNothingBesideFault(t *testing.T, what string, r impl.ExpResult) {
	t.Helper()
	if r.Fault.Code == 0 && r.Fault.Text != "" || r.Fault.Code != 0 && (len(r.Cores) > 0 || len(r.Roles) > 0) {
		t.Errorf("%s: %v", what, r)
	}
}

// expandCase is a text and what it comes to.
type expandCase struct {
	text string
	want string
}

func demandExpands(t *testing.T, cases []expandCase) {
	t.Helper()
	for _, c := range cases {
		if got := shown(demandExpand(t, c.text, readAll(c.text))); got != c.want {
			t.Errorf("%s:\n%sand not\n%s", c.text, got, c.want)
		}
	}
}

// faultCase is a text, and the code and the text of its fault.
type faultCase struct {
	text string
	code int
	at   string
}

func demandFaults(t *testing.T, cases []faultCase) {
	t.Helper()
	for _, c := range cases {
		if got := demandExpand(t, lastOf(c.text), readAll(c.text)).Fault; got != (impl.ExpFault{Code: c.code, Text: c.at}) {
			t.Errorf("%s: %v and not %d at %s", lastOf(c.text), got, c.code, c.at)
		}
	}
}

// lastOf is the last part of a text, which tells its case apart from others.
func lastOf(text string) string {
	return text[max(0, len(text)-200):]
}

// boundWell says whether no name is bound twice in cores, and each is used only within where it is bound.
func boundWell(all []impl.ExpCore) bool {
	bound := map[string]bool{}
	return bindOnce(all, bound) && usedWithin(all, bound, nil)
}

func bindOnce(all []impl.ExpCore, bound map[string]bool) bool {
	for _, c := range all {
		for _, name := range c.Names {
			if bound[name] {
				return false
			}
			bound[name] = true
		}
		if !bindOnce(c.Kids, bound) {
			return false
		}
	}
	return true
}

func usedWithin(all []impl.ExpCore, bound map[string]bool, around []string) bool {
	for _, c := range all {
		uses := c.Sort == impl.CoreRef || c.Sort == impl.CoreSet || c.Sort == impl.CoreDefine
		if uses && bound[c.Text] && !slices.Contains(around, c.Text) {
			return false
		}
		if !usedWithin(c.Kids, bound, slices.Concat(around, c.Names)) {
			return false
		}
	}
	return true
}

// programMaker makes texts of programs, of few names that mean many things, by numbers that follow a fixed rule.
type programMaker struct {
	formMaker
	// own are the names of the pattern whose template is made, many those that are repeated in it.
	own  []string
	many []string
}

func (m *programMaker) one(of ...string) string {
	return of[m.below(len(of))]
}

// times is what is made so often, with a space between.
func (m *programMaker) times(many int, make func() string) string {
	var all []string
	for range many {
		all = append(all, make())
	}
	return strings.Join(all, " ")
}

func (m *programMaker) name() string {
	if len(m.own) > 0 && m.below(2) == 0 {
		return m.one(m.own...)
	}
	if m.below(40) == 0 {
		return m.one("if", "define", "begin", "lambda", "quote", "set!", "define-syntax", "m", "n")
	}
	return m.one("x", "y", "z", "f", "else")
}

func (m *programMaker) macroName() string {
	return m.one("m", "m", "m", "m", "n", "n", "n", "n", "k", "x")
}

func (m *programMaker) program() string {
	return m.times(1+m.below(3), m.syntax) + "\n" + m.times(1+m.below(5), func() string {
		if m.below(3) > 0 {
			return m.definition(3) + "\n"
		}
		return m.value(3) + "\n"
	})
}

func (m *programMaker) value(deep int) string {
	inner := func() string { return m.value(deep - 1) }
	kind := m.below(13)
	if deep == 0 {
		kind = m.below(4)
	}
	switch kind {
	case 0, 1, 2:
		return m.name()
	case 3:
		return m.one("1", "2", "#t", "'a", "'(x . y)", "''x", "\"s\"", "'3")
	case 4:
		return "(if " + m.times(2+m.below(2), inner) + ")"
	case 5:
		return "(lambda " + m.params() + " " + m.body(deep-1) + ")"
	case 6:
		return "(begin " + m.times(1+m.below(2), inner) + ")"
	case 7:
		return "(set! " + m.name() + " " + inner() + ")"
	case 8, 9, 10:
		return m.use(deep)
	case 11:
		return "((lambda (" + m.name() + ") " + m.body(deep-1) + ") " + inner() + ")"
	}
	if len(m.many) > 0 {
		return "(f " + m.one(m.many...) + " ... " + inner() + ")"
	}
	return "(" + m.name() + " " + m.times(m.below(3), inner) + ")"
}

func (m *programMaker) use(deep int) string {
	return "(" + m.macroName() + " " + m.times(m.below(4), func() string { return m.value(deep - 1) }) + m.one("", "", "", "", "", "", "", "", "", "", "", " . 1") + ")"
}

func (m *programMaker) params() string {
	switch m.below(6) {
	case 0:
		return m.name()
	case 1:
		return "(" + m.name() + " . " + m.name() + ")"
	}
	if m.below(2) == 0 {
		return m.one("(x y)", "(y z x)", "()")
	}
	return "(" + m.times(m.below(3), m.name) + ")"
}

func (m *programMaker) body(deep int) string {
	ahead := m.times(m.below(3), func() string { return m.definition(deep) })
	return ahead + " " + m.times(1+m.below(2), func() string { return m.value(deep) })
}

func (m *programMaker) definition(deep int) string {
	deep = max(deep, 1)
	switch m.below(9) {
	case 0, 1:
		return "(define " + m.name() + " " + m.value(deep-1) + ")"
	case 2, 3:
		return "(define (" + m.name() + m.one(" ", " . ", " x . ") + m.name() + ") " + m.body(deep-1) + ")"
	case 4, 5:
		return m.syntax()
	case 6:
		return "(begin " + m.times(m.below(3), func() string { return m.definition(deep - 1) }) + ")"
	}
	return m.use(deep)
}

func (m *programMaker) syntax() string {
	own, many := m.own, m.many
	var rules []string
	for range m.below(3) {
		rules = append(rules, m.rule())
	}
	m.own, m.many = own, many
	rules = append(rules, m.one("", "", "((_ . r) (f . r))", "((_ . r) (begin (define x 1) (f . r)))", "((_ r ...) (f r ...))"))
	return "(define-syntax " + m.macroName() + " (syntax-rules (" + m.one("", "else", "x else") + ") " + strings.Join(rules, " ") + "))"
}

func (m *programMaker) rule() string {
	shapes := []struct {
		pattern string
		own     []string
		many    []string
	}{{"(_)", nil, nil}, {"(_ a)", names("a"), nil}, {"(_ a b)", names("a", "b"), nil}, {"(_ a ...)", nil, names("a")}, {"(_ a b ...)", names("a"), names("b")}, {"(_ a . b)", names("a"), nil}, {"(_ else a)", names("a"), nil}, {"(_ else ... a b)", names("a", "b"), nil}, {"(_ a x . b)", names("a"), nil}, {"(_ a (else b) ...)", names("a"), names("b")}}
	shape := shapes[m.below(len(shapes))]
	m.own, m.many = shape.own, shape.many
	template := m.value(2)
	if m.below(2) == 0 {
		template = "(begin " + m.definition(2) + m.one("", " "+m.definition(1), " "+m.value(1)) + ")"
	}
	return "(" + shape.pattern + " " + template + ")"
}

// scoped are forms some of whose identifiers have scopes.
func (m *programMaker) scoped(forms []impl.ExpForm) []impl.ExpForm {
	var all []impl.ExpForm
	for _, f := range forms {
		if f.Sort == impl.ExpId && m.below(4) == 0 {
			f = impl.ExpWith(impl.ExpWith(f, m.below(8)), m.below(8))
		}
		f.Kids = m.scoped(f.Kids)
		all = append(all, f)
	}
	return all
}

// madePrograms are so many programs.
func madePrograms(many int) [][]impl.ExpForm {
	m := programMaker{formMaker: formMaker{state: 5}}
	var all [][]impl.ExpForm
	for len(all) < many {
		if forms, ok := impl.ExpRead(m.program()); ok {
			all = append(all, forms)
		}
	}
	return all
}

package tests

import (
	"slices"
	"strconv"

	"loop.example/siskin/impl"
)

// What chapter 6 of the document says, written down word by word on top of what the chapters ahead of it answer, to hold the program against.

// expanding is what was bound, and what was needed so far. Kinds and macros are told by Name.
type expanding struct {
	binds   []impl.ExpBind
	kinds   map[string]int
	macros  map[string]impl.ExpMacro
	scopes  int
	numbers int
	steps   int
	cores   int
	roles   []impl.ExpRole
}

// What names may be.
const (
	ofProgram = 0
	ofWithin  = 1
	ofGiven   = 2
	ofMacro   = 3
)

func wantExpand(forms []impl.ExpForm) (result impl.ExpResult) {
	defer func() {
		switch f := recover().(type) {
		case nil:
		case impl.ExpFault:
			result = impl.ExpResult{Fault: f}
		default:
			panic(f)
		}
	}()
	e := &expanding{kinds: map[string]int{}, macros: map[string]impl.ExpMacro{}}
	for _, word := range []string{"begin", "define", "define-syntax", "if", "lambda", "quote", "set!"} {
		e.bind(id(word, 0, 0), "given "+word, ofGiven)
	}
	for _, f := range forms {
		if !impl.ExpFormOk(f) {
			e.fault(1, list())
		}
	}
	if formsIn(list(forms...))-1 > impl.ExpMaxForms {
		e.fault(4, list())
	}
	return impl.ExpResult{Cores: e.program(eachWith(forms, 0)), Roles: e.roles}
}

func formsIn(f impl.ExpForm) int {
	count := 1
	for _, kid := range f.Kids {
		count += formsIn(kid)
	}
	return count
}

func eachWith(forms []impl.ExpForm, scope int) []impl.ExpForm {
	var all []impl.ExpForm
	for _, f := range forms {
		all = append(all, impl.ExpWith(f, scope))
	}
	return all
}

func (e *expanding) fault(code int, f impl.ExpForm) {
	ids := append(identifiers(f), impl.ExpForm{})
	panic(impl.ExpFault{Code: code, Text: ids[0].Text})
}

func (e *expanding) demand(holds bool, code int, f impl.ExpForm) {
	if !holds {
		e.fault(code, f)
	}
}

func (e *expanding) role(f impl.ExpForm, kind int, name string) {
	e.roles = append(e.roles, impl.ExpRole{From: f.From, Kind: kind, Name: name})
}

func (e *expanding) bind(f impl.ExpForm, name string, kind int) string {
	e.binds = append(e.binds, impl.ExpBind{Text: f.Text, Scopes: f.Scopes, Name: name})
	e.kinds[name] = kind
	return name
}

func (e *expanding) bindWithin(f impl.ExpForm) string {
	e.numbers++
	name := f.Text + "~" + strconv.Itoa(e.numbers)
	e.role(f, impl.ExpBinds, name)
	return e.bind(f, name, ofWithin)
}

// standsFor is the name of what a form stands for, and its kind; below 0, if it is no identifier.
func (e *expanding) standsFor(f impl.ExpForm) (string, int) {
	if f.Sort != impl.ExpId {
		return "", -1
	}
	name, found := impl.ExpFind(e.binds, f)
	e.demand(found != 2, 3, f)
	if found == 0 {
		return f.Text, ofProgram
	}
	return name, e.kinds[name]
}

// first is what the first of Kids stands for.
func (e *expanding) first(f impl.ExpForm) (string, int) {
	if !isAnyList(f) || len(f.Kids) == 0 {
		return "", -1
	}
	return e.standsFor(f.Kids[0])
}

// use is what comes of a use, and the scope of the use.
func (e *expanding) use(f impl.ExpForm, name string) (impl.ExpForm, int) {
	e.role(f.Kids[0], impl.ExpOther, "")
	e.scopes += 2
	use, own := e.scopes-1, e.scopes
	e.steps++
	e.demand(e.steps <= impl.ExpMaxSteps, 4, f)
	given := impl.ExpFlip(impl.ExpWith(f, use), own)
	e.compared(e.macros[name], given)
	made, code := impl.ExpApply(e.macros[name], given, e.binds)
	e.demand(code == 0, code, f)
	return impl.ExpFlip(made, own), use
}

func (e *expanding) compared(m impl.ExpMacro, f impl.ExpForm) {
	var ids, literals []impl.ExpForm
	for _, rule := range m.Rules {
		_, matches := wantMatch(rule.Pattern, m.Literals, f, func(literal, id impl.ExpForm) bool {
			ids, literals = append(ids, id), append(literals, literal)
			return comparingBy(e.binds)(literal, id)
		})
		if matches {
			break
		}
	}
	for _, id := range ids {
		e.standing(id)
	}
	for _, literal := range literals {
		e.standing(literal)
		if _, kind := e.standsFor(literal); kind == ofWithin {
			e.role(literal, impl.ExpOther, "")
		}
	}
}

// standing notes an identifier by what it stands for.
func (e *expanding) standing(f impl.ExpForm) {
	if name, kind := e.standsFor(f); kind == ofWithin {
		e.role(f, impl.ExpRefers, name)
	} else {
		e.role(f, impl.ExpOther, "")
	}
}

// put counts what comes to be.
func (e *expanding) put(f impl.ExpForm, c impl.ExpCore) impl.ExpCore {
	e.cores++
	e.demand(e.cores <= impl.ExpMaxCores, 4, f)
	return c
}

func (e *expanding) variable(f impl.ExpForm) impl.ExpCore {
	name, kind := e.standsFor(f)
	e.demand(kind == ofProgram || kind == ofWithin, 5, f)
	e.standing(f)
	return e.put(f, ref(name))
}

func (e *expanding) values(forms []impl.ExpForm, deep int) []impl.ExpCore {
	var all []impl.ExpCore
	for _, f := range forms {
		all = append(all, e.value(f, deep))
	}
	return all
}

func (e *expanding) value(f impl.ExpForm, deep int) impl.ExpCore {
	e.demand(deep <= impl.ExpMaxDeep, 4, f)
	switch f.Sort {
	case impl.ExpId:
		return e.variable(f)
	case impl.ExpAtom:
		return e.put(f, konst(f.Text))
	}
	e.demand(len(f.Kids) > 0, 1, f)
	name, kind := e.first(f)
	if kind == ofMacro {
		made, _ := e.use(f, name)
		return e.value(made, deep+1)
	}
	e.demand(f.Sort == impl.ExpList, 1, f)
	if kind == ofGiven {
		return e.given(f, name, f.Kids[1:], deep)
	}
	return e.put(f, call(e.values(f.Kids, deep+1)...))
}

func (e *expanding) given(f impl.ExpForm, name string, parts []impl.ExpForm, deep int) impl.ExpCore {
	e.role(f.Kids[0], impl.ExpOther, "")
	many := len(parts)
	switch name {
	case "given quote":
		e.demand(many == 1, 1, f)
		for _, id := range identifiers(parts[0]) {
			e.role(id, impl.ExpQuoted, "")
		}
		if parts[0].Sort == impl.ExpAtom {
			return e.put(f, konst(parts[0].Text))
		}
		return e.put(f, konst("'"+impl.ExpShow(parts[0])))
	case "given if":
		e.demand(many == 2 || many == 3, 1, f)
		return e.put(f, ifOf(e.values(parts, deep+1)...))
	case "given begin":
		e.demand(many > 0, 1, f)
		return e.put(f, begin(e.values(parts, deep+1)...))
	case "given set!":
		e.demand(many == 2 && parts[0].Sort == impl.ExpId, 1, f)
		to := e.variable(parts[0])
		return e.put(f, set(to.Text, e.value(parts[1], deep+1)))
	case "given lambda":
		e.demand(many >= 2, 1, f)
		return e.procedure(f, parts[0], parts[1:], deep)
	}
	e.fault(1, f)
	return impl.ExpCore{}
}

func (e *expanding) procedure(told, params impl.ExpForm, forms []impl.ExpForm, deep int) impl.ExpCore {
	e.demand(deep <= impl.ExpMaxDeep, 4, told)
	parts, end := partsAndEnd(params)
	parts = slices.Concat(parts, end)
	for i, part := range parts {
		e.demand(part.Sort == impl.ExpId && !hasId(parts[:i], part), 1, told)
	}
	e.scopes++
	scope := e.scopes
	var all []string
	for _, part := range parts {
		all = append(all, e.bindWithin(impl.ExpWith(part, scope)))
	}
	kid := e.body(told, eachWith(forms, scope), deep+1)
	return e.put(told, lambda(all, len(end) > 0, kid))
}

// opened is one of the forms of a body, or of the program, that was opened: with an ID a definition.
type opened struct {
	form impl.ExpForm
	id   impl.ExpForm
	name string
}

// open opens the first one of forms: what it is, if it is a definition or is to have a value, and the forms that are left.
func (e *expanding) open(forms []impl.ExpForm, inside int, noted *[]int) (*opened, []impl.ExpForm) {
	f, rest := forms[0], forms[1:]
	name, kind := e.first(f)
	if kind == ofMacro {
		made, use := e.use(f, name)
		*noted = append(*noted, use)
		return nil, slices.Concat(eachWith([]impl.ExpForm{made}, inside), rest)
	}
	if f.Sort != impl.ExpList || name != "given begin" && name != "given define" && name != "given define-syntax" {
		return &opened{form: f}, rest
	}
	e.role(f.Kids[0], impl.ExpOther, "")
	if name == "given begin" {
		return nil, slices.Concat(f.Kids[1:], rest)
	}
	e.demand(len(f.Kids) >= 3, 1, f)
	target := f.Kids[1]
	if name == "given define-syntax" {
		e.demand(len(f.Kids) == 3 && target.Sort == impl.ExpId, 1, f)
		e.syntax(f, *noted)
		return nil, rest
	}
	if target.Sort == impl.ExpId {
		e.demand(len(f.Kids) == 3, 1, f)
	} else {
		e.demand(isAnyList(target) && len(target.Kids) > 0 && target.Kids[0].Sort == impl.ExpId, 1, f)
		target = target.Kids[0]
	}
	return &opened{form: f, id: without(target, *noted)}, rest
}

func without(f impl.ExpForm, noted []int) impl.ExpForm {
	f.Scopes = slices.DeleteFunc(slices.Clone(f.Scopes), func(scope int) bool {
		return slices.Contains(noted, scope)
	})
	return f
}

func (e *expanding) syntax(f impl.ExpForm, noted []int) {
	m, ok := impl.ExpRules(f.Kids[2])
	e.demand(ok, 6, f.Kids[1])
	e.numbers++
	name := e.bind(without(f.Kids[1], noted), "macro "+strconv.Itoa(e.numbers), ofMacro)
	e.macros[name] = m
	others := []impl.ExpForm{f.Kids[1]}
	others = append(others, m.Literals...)
	for _, rule := range m.Rules {
		for _, id := range identifiers(rule.Pattern) {
			if !isDotsId(id) && !isBlankId(id) {
				others = append(others, id)
			}
		}
		for _, id := range identifiers(rule.Template) {
			if hasId(namesOf(rule.Pattern, m.Literals), id) {
				others = append(others, id)
			}
		}
	}
	for _, id := range others {
		e.role(id, impl.ExpOther, "")
	}
}

// defined is what a definition is defined as.
func (e *expanding) defined(o *opened, deep int) impl.ExpCore {
	target := o.form.Kids[1]
	if target.Sort == impl.ExpId {
		return e.value(o.form.Kids[2], deep)
	}
	parts, end := partsAndEnd(target)
	return e.procedure(o.id, joined(parts[1:], end), o.form.Kids[2:], deep)
}

func (e *expanding) body(told impl.ExpForm, forms []impl.ExpForm, deep int) impl.ExpCore {
	e.scopes++
	inside := e.scopes
	forms = eachWith(forms, inside)
	var noted []int
	var definitions []*opened
	var values []impl.ExpForm
	for len(forms) > 0 && len(values) == 0 {
		var o *opened
		o, forms = e.open(forms, inside, &noted)
		if o != nil && o.id.Sort == 0 {
			values = append([]impl.ExpForm{o.form}, forms...)
		} else if o != nil {
			o.name = e.bindWithin(o.id)
			definitions = append(definitions, o)
		}
	}
	e.demand(len(values) > 0, 1, told)
	var all []string
	var kids []impl.ExpCore
	for _, o := range definitions {
		all = append(all, o.name)
		kids = append(kids, e.defined(o, deep))
	}
	others := e.values(values, deep)
	last := others[0]
	if len(others) > 1 {
		last = e.put(told, begin(others...))
	}
	if len(definitions) == 0 {
		return last
	}
	return e.put(told, rec(all, append(kids, last)...))
}

func (e *expanding) program(forms []impl.ExpForm) []impl.ExpCore {
	var noted []int
	var all []impl.ExpCore
	for len(forms) > 0 {
		var o *opened
		o, forms = e.open(forms, 0, &noted)
		if o != nil && o.id.Sort == 0 {
			all = append(all, e.value(o.form, 0))
		} else if o != nil {
			all = append(all, e.programDefine(o))
		}
	}
	return all
}

func (e *expanding) programDefine(o *opened) impl.ExpCore {
	name := ""
	for _, b := range e.binds {
		if kind := e.kinds[b.Name]; b.Text == o.id.Text && slices.Equal(b.Scopes, o.id.Scopes) && (kind == ofProgram || kind == ofWithin) {
			name = b.Name
		}
	}
	if name == "" && slices.Equal(o.id.Scopes, []int{0}) {
		name = o.id.Text
	}
	if name == "" {
		e.numbers++
		name = o.id.Text + "~g" + strconv.Itoa(e.numbers)
	}
	e.bind(o.id, name, ofProgram)
	e.role(o.id, impl.ExpOther, "")
	kid := e.defined(o, 0)
	told := o.form
	if told.Kids[1].Sort != impl.ExpId {
		told = o.id
	}
	return e.put(told, define(name, kid))
}

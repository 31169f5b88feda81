package tests

import (
	"reflect"
	"slices"
	"strings"
	"testing"

	"loop.example/siskin/impl"
)

func id(text string, from int, scopes ...int) impl.ExpForm {
	return impl.ExpForm{Sort: impl.ExpId, Text: text, From: from, Scopes: scopes}
}

func atom(text string) impl.ExpForm {
	return impl.ExpForm{Sort: impl.ExpAtom, Text: text}
}

func list(kids ...impl.ExpForm) impl.ExpForm {
	return impl.ExpForm{Sort: impl.ExpList, Kids: kids}
}

func dots(kids ...impl.ExpForm) impl.ExpForm {
	return impl.ExpForm{Sort: impl.ExpDots, Kids: kids}
}

// nested is a form within so many lists.
func nested(lists int, f impl.ExpForm) impl.ExpForm {
	for range lists {
		f = list(f)
	}
	return f
}

// wide is a list that, with all within it, is so many forms.
func wide(forms int) impl.ExpForm {
	return list(slices.Repeat([]impl.ExpForm{id("a", 1)}, forms-1)...)
}

// wideDots is a list that ends in an atom and, with all within it, is so many forms.
func wideDots(forms int) impl.ExpForm {
	kids := slices.Repeat([]impl.ExpForm{id("a", 1)}, forms-1)
	kids[len(kids)-1] = atom("1")
	return dots(kids...)
}

// wheel is a list of so many parts, each of which is the list itself.
func wheel(parts int) impl.ExpForm {
	kids := make([]impl.ExpForm, parts)
	f := list(kids...)
	for i := range kids {
		kids[i] = f
	}
	return f
}

func sameForm(a, b impl.ExpForm) bool {
	return a.Sort == b.Sort && a.Text == b.Text && a.From == b.From && slices.Equal(a.Scopes, b.Scopes) && sameForms(a.Kids, b.Kids)
}

func sameForms(a, b []impl.ExpForm) bool {
	return slices.EqualFunc(a, b, sameForm)
}

func isNothing(f impl.ExpForm) bool {
	return sameForm(f, impl.ExpForm{})
}

// identifiers are all identifiers of a form, in order.
func identifiers(f impl.ExpForm) []impl.ExpForm {
	if f.Sort == impl.ExpId {
		return []impl.ExpForm{f}
	}
	var all []impl.ExpForm
	for _, kid := range f.Kids {
		all = append(all, identifiers(kid)...)
	}
	return all
}

// spare fills the room behind the ends of lists, so that what is written there is seen.
const spare = -77

// roomy is a copy of a form whose lists all have room behind their ends, filled.
func roomy(f impl.ExpForm) impl.ExpForm {
	f.Scopes = roomyScopes(f.Scopes)
	kids := make([]impl.ExpForm, len(f.Kids), len(f.Kids)+2)
	for i, kid := range f.Kids {
		kids[i] = roomy(kid)
	}
	for i := len(kids); i < cap(kids); i++ {
		kids[:cap(kids)][i] = impl.ExpForm{Sort: spare}
	}
	f.Kids = kids
	return f
}

func roomyScopes(scopes []int) []int {
	room := make([]int, len(scopes), len(scopes)+2)
	copy(room, scopes)
	for i := len(room); i < cap(room); i++ {
		room[:cap(room)][i] = spare
	}
	return room
}

// staysRoomy says whether a form made by roomy is still the copy of f, its room included.
func staysRoomy(room, f impl.ExpForm) bool {
	if !sameForm(room, f) {
		return false
	}
	for _, kid := range room.Kids[len(room.Kids):cap(room.Kids)] {
		if !sameForm(kid, impl.ExpForm{Sort: spare}) {
			return false
		}
	}
	for i, kid := range room.Kids {
		if !staysRoomy(kid, f.Kids[i]) {
			return false
		}
	}
	return staysRoomyScopes(room.Scopes)
}

func staysRoomyScopes(scopes []int) bool {
	for _, s := range scopes[len(scopes):cap(scopes)] {
		if s != spare {
			return false
		}
	}
	return true
}

// block is where a list lies in memory, its spare room included.
type block struct {
	from, to uintptr
}

func blockOf(slice any) []block {
	v := reflect.ValueOf(slice)
	if v.Cap() == 0 {
		return nil
	}
	return []block{{v.Pointer(), v.Pointer() + uintptr(v.Cap())*v.Type().Elem().Size()}}
}

func blocksOf(forms []impl.ExpForm) []block {
	all := blockOf(forms)
	for _, f := range forms {
		all = append(append(all, blockOf(f.Scopes)...), blocksOf(f.Kids)...)
	}
	return all
}

func shareSome(blocks []block) bool {
	for i, a := range blocks {
		for _, b := range blocks[:i] {
			if a.from < b.to && b.from < a.to {
				return true
			}
		}
	}
	return false
}

// demandNewMemory fails, if lists of an answer share memory with one another or with what was handed in.
func demandNewMemory(t *testing.T, what string, answer impl.ExpForm, given impl.ExpForm) {
	t.Helper()
	demandOwnBlocks(t, what, blocksWithin(answer), blocksWithin(given))
}

// blocksWithin are the blocks of the lists of a form.
func blocksWithin(f impl.ExpForm) []block {
	return append(blockOf(f.Scopes), blocksOf(f.Kids)...)
}

func demandOwnBlocks(t *testing.T, what string, answers, given []block) {
	t.Helper()
	if shareSome(answers) {
		t.Errorf("%s: lists of the answer share memory", what)
	}
	for _, a := range answers {
		for _, g := range given {
			if shareSome([]block{a, g}) {
				t.Errorf("%s: the answer shares memory with what was handed in", what)
				return
			}
		}
	}
}

// someOk are forms that are ok, the limits being met by the last ones.
func someOk() []impl.ExpForm {
	name := strings.Repeat("n", impl.ExpMaxName)
	return append(madeForms(),
		id("a", 0), id("a", 1, 0), id("a", 7, 0, 1, 5), id("...", 2), id("_", 3, 9), id("-", 1), id("+5", 1), id("1a", 1), id("--1", 1), id("a.b", 1), id(".b", 1), id("..", 1), id("a#", 1), id("!", 1), id("}", 1),
		atom("0"), atom("9"), atom("1234567890"), atom("007"), atom("-5"), atom("-0"), atom("#t"), atom("#f"), atom("\"\""), atom("\"a (b) ' ~ #.\""), atom("\" \""),
		list(), list(list()), list(atom("1"), id("b", 4, 2)), list(id("quote", 1), id("x", 2)), list(list(id("a", 1, 3)), list(id("a", 2, 3, 4))),
		dots(id("a", 1), id("b", 2)), dots(list(), atom("1")), dots(dots(id("a", 1, 1), id("b", 2, 2)), id("c", 3), id("d", 4, 1, 2)),
		id(name, 1, 4), atom(strings.Repeat("1", impl.ExpMaxName)), atom("-"+strings.Repeat("1", impl.ExpMaxName-1)), atom("\""+strings.Repeat(" ", impl.ExpMaxName-2)+"\""),
		nested(impl.ExpMaxDeep, id("a", 1, 2)), nested(impl.ExpMaxDeep, atom("1")), nested(impl.ExpMaxDeep, list()), nested(impl.ExpMaxDeep-1, dots(id("a", 1), id("b", 2, 3))),
		wide(impl.ExpMaxForms), wideDots(impl.ExpMaxForms), id("a", 1<<62, 0, 1<<62))
}

// someNotOk are forms that are not ok, each by one thing, by what that is.
func someNotOk() map[string]impl.ExpForm {
	long := strings.Repeat("n", impl.ExpMaxName+1)
	all := map[string]impl.ExpForm{
		"nothing": {}, "sort below": {Sort: -1, Text: "a"}, "sort above": {Sort: 5}, "sort 0 with a text": {Text: "a"},
		"scopes the same": id("a", 1, 2, 2), "scopes the other way": id("a", 1, 3, 2), "scope below 0": id("a", 1, -1), "scope below 0, others": id("a", 1, -1, 0), "from below 0": id("a", -1),
		"identifier with kids": {Sort: impl.ExpId, Text: "a", Kids: []impl.ExpForm{atom("1")}}, "atom with kids": {Sort: impl.ExpAtom, Text: "1", Kids: []impl.ExpForm{atom("1")}},
		"atom with scopes": {Sort: impl.ExpAtom, Text: "1", Scopes: []int{1}}, "atom with from": {Sort: impl.ExpAtom, Text: "1", From: 1},
		"list with text": {Sort: impl.ExpList, Text: "a"}, "list with scopes": {Sort: impl.ExpList, Scopes: []int{1}}, "list with from": {Sort: impl.ExpList, From: 1}, "list with from below 0": {Sort: impl.ExpList, From: -1},
		"dots with text": {Sort: impl.ExpDots, Text: "a", Kids: []impl.ExpForm{atom("1"), atom("1")}}, "dots with scopes": {Sort: impl.ExpDots, Scopes: []int{1}, Kids: []impl.ExpForm{atom("1"), atom("1")}}, "dots with from": {Sort: impl.ExpDots, From: 1, Kids: []impl.ExpForm{atom("1"), atom("1")}},
		"dots of none": dots(), "dots of one": dots(id("a", 1)), "dots that end in a list": dots(id("a", 1), list(id("b", 2))), "dots that end in no part": dots(id("a", 1), list()), "dots that end in dots": dots(id("a", 1), dots(id("b", 2), id("c", 3))), "dots whose end is not ok": dots(id("a", 1), id("b", 2, -1)), "dots whose part is not ok": dots(id("", 1), id("b", 2)),
		"long identifier": id(long, 1), "long number": atom(strings.Repeat("1", impl.ExpMaxName+1)), "long number below 0": atom("-" + strings.Repeat("1", impl.ExpMaxName)), "long string": atom("\"" + strings.Repeat(" ", impl.ExpMaxName-1) + "\""),
		"deep": nested(impl.ExpMaxDeep+1, id("a", 1)), "deep list": nested(impl.ExpMaxDeep+1, list()), "deep dots": nested(impl.ExpMaxDeep, dots(id("a", 1), id("b", 2))), "deep, behind others": list(atom("1"), nested(impl.ExpMaxDeep, atom("1"))),
		"many": wide(impl.ExpMaxForms + 1), "many dots": wideDots(impl.ExpMaxForms + 1), "many within": list(wide(impl.ExpMaxForms/2), wide(impl.ExpMaxForms/2)),
		"wheel of one": wheel(1), "wheel of two": wheel(2), "wheel of many": wheel(1000),
		"a part not ok": list(id("a", 1), list(atom("x"))), "a last part not ok": list(id("a", 1), impl.ExpForm{}),
	}
	for _, text := range []string{"", ".", "#", "#t", "#f", "#x", "5", "-5", "\"\"", "\"a\"", "a b", "a\n", "a\tb", "a(", ")", "a\"b", "'", "a'b", "~", "a~1", "\x7f", "\x00", "a\x80", "\u00e9"} {
		all["identifier "+text] = id(text, 1)
	}
	for _, text := range []string{"", "-", "+5", "5-", "--5", "5.0", "1/2", "#", "#T", "#tt", "t", "a", "\"", "a\"", "\"a", "\"a\"b\"", "\"a\"\"", "\"a\nb\"", "\"\t\"", "\"\x1f\"", "\"\x7f\"", "\"\u00e9\"", " 5", "5 "} {
		all["atom "+text] = atom(text)
	}
	return all
}

// formMaker makes forms of numbers that follow a fixed rule.
type formMaker struct {
	state uint32
	froms int
}

func (m *formMaker) below(n int) int {
	m.state = m.state*1664525 + 1013904223
	return int(m.state>>16) % n
}

func (m *formMaker) form(deep int) impl.ExpForm {
	kind := m.below(6)
	if deep == 0 && kind > 2 {
		kind -= 3
	}
	switch kind {
	case 0:
		return atom([]string{"1", "-20", "#t", "\"a b\""}[m.below(4)])
	case 1, 2:
		return m.identifier()
	case 3:
		return dots(append(m.forms(deep-1, 1+m.below(3)), m.identifier())...)
	}
	return list(m.forms(deep-1, m.below(4))...)
}

func (m *formMaker) forms(deep, many int) []impl.ExpForm {
	var all []impl.ExpForm
	for range many {
		all = append(all, m.form(deep))
	}
	return all
}

func (m *formMaker) identifier() impl.ExpForm {
	var scopes []int
	for scope := range 5 {
		if m.below(3) == 0 {
			scopes = append(scopes, scope)
		}
	}
	m.froms++
	return id([]string{"a", "b", "...", "+"}[m.below(4)], m.froms, scopes...)
}

func madeForms() []impl.ExpForm {
	m := formMaker{state: 1}
	return m.forms(5, 300)
}

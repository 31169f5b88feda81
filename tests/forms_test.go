package tests

import (
	"slices"
	"strings"
	"testing"

	"loop.example/siskin/impl"
)

// showAll is all forms as they are shown, a newline behind each.
func showAll(forms []impl.ExpForm) string {
	text := ""
	for _, f := range forms {
		text += impl.ExpShow(f) + "\n"
	}
	return text
}

func TestReadGivesForms(t *testing.T) {
	for text, want := range map[string][]impl.ExpForm{
		"":                     {},
		" \n \n":               {},
		"a":                    {id("a", 1)},
		"\n a\n":               {id("a", 1)},
		"a b a":                {id("a", 1), id("b", 2), id("a", 3)},
		"-5 - 5 +5 007":        {atom("-5"), id("-", 1), atom("5"), id("+5", 2), atom("007")},
		"#t #f":                {atom("#t"), atom("#f")},
		"\"\"\"a b\"c":         {atom("\"\""), atom("\"a b\""), id("c", 1)},
		"a\"(')~\"1":           {id("a", 1), atom("\"(')~\""), atom("1")},
		"()":                   {list()},
		"()()":                 {list(), list()},
		"(a(b)c)":              {list(id("a", 1), list(id("b", 2)), id("c", 3))},
		"( a\n( ) )":           {list(id("a", 1), list())},
		"(a . b)":              {dots(id("a", 1), id("b", 2))},
		"(a b . \"c\")":        {dots(id("a", 1), id("b", 2), atom("\"c\""))},
		"(() . 1)":             {dots(list(), atom("1"))},
		"(a .b)":               {list(id("a", 1), id(".b", 2))},
		"(a. b)":               {list(id("a.", 1), id("b", 2))},
		"(a .. b)":             {list(id("a", 1), id("..", 2), id("b", 3))},
		"(a ... . b)":          {dots(id("a", 1), id("...", 2), id("b", 3))},
		"(a .\"b\")":           {dots(id("a", 1), atom("\"b\""))},
		"((a . b) . c)":        {dots(dots(id("a", 1), id("b", 2)), id("c", 3))},
		"'a":                   {list(id("quote", 1), id("a", 2))},
		"' \n a":               {list(id("quote", 1), id("a", 2))},
		"''a":                  {list(id("quote", 1), list(id("quote", 2), id("a", 3)))},
		"'()":                  {list(id("quote", 1), list())},
		"a'b":                  {id("a", 1), list(id("quote", 2), id("b", 3))},
		"5'\"\"x":              {atom("5"), list(id("quote", 1), atom("\"\"")), id("x", 2)},
		"(a '(b . c) d)":       {list(id("a", 1), list(id("quote", 2), dots(id("b", 3), id("c", 4))), id("d", 5))},
		"('a . b)":             {dots(list(id("quote", 1), id("a", 2)), id("b", 3))},
		"(quote a)":            {list(id("quote", 1), id("a", 2))},
		"! } [a] a#t ` , ; \\": {id("!", 1), id("}", 2), id("[a]", 3), id("a#t", 4), id("`", 5), id(",", 6), id(";", 7), id("\\", 8)},
	} {
		forms, ok := impl.ExpRead(text)
		if !ok || !sameForms(forms, want) {
			t.Errorf("%q: %v %v", text, forms, ok)
		}
	}
}

func TestReadListsThatEndInLists(t *testing.T) {
	for text, want := range map[string]impl.ExpForm{
		"(a . ())":                list(id("a", 1)),
		"(a . (b))":               list(id("a", 1), id("b", 2)),
		"(a .(b c))":              list(id("a", 1), id("b", 2), id("c", 3)),
		"(a b . (c . d))":         dots(id("a", 1), id("b", 2), id("c", 3), id("d", 4)),
		"(a . (b . (c . ())))":    list(id("a", 1), id("b", 2), id("c", 3)),
		"(a . (b . (c . 1)))":     dots(id("a", 1), id("b", 2), id("c", 3), atom("1")),
		"(a . ((b . (c)) . (d)))": list(id("a", 1), list(id("b", 2), id("c", 3)), id("d", 4)),
		"(a . 'b)":                list(id("a", 1), id("quote", 2), id("b", 3)),
		"(a .'(b . c))":           list(id("a", 1), id("quote", 2), dots(id("b", 3), id("c", 4))),
		"'(a . (b))":              list(id("quote", 1), list(id("a", 2), id("b", 3))),
		"((a . (b)) . (c . d))":   dots(list(id("a", 1), id("b", 2)), id("c", 3), id("d", 4)),
	} {
		forms, ok := impl.ExpRead(text)
		if !ok || len(forms) != 1 || !sameForm(forms[0], want) {
			t.Errorf("%q: %v %v", text, forms, ok)
		}
	}
}

func TestReadRefuses(t *testing.T) {
	for _, text := range []string{
		"(", ")", "(a", "a)", "(a))", "((a)", "a (b", "'", "(')", "a '", "''", "(a ')", "(a . ')", "')", "('))", "(a '))", "(a . '))",
		".", ". a", "a . b", "(.)", "(. a)", "(. ())", "(a .)", "(a . )", "(a . b c)", "(a . b . c)", "(a . . b)", "(a . (b) c)", "(a . (b) . c)", "(a . b 'c)", "(a . b ())", "'.", "'. a", "('. a)", "(a '. b)", "(a . '. b)",
		"#", "#q", "#tt", "(#)", "#t#f", "\"", "\"a", "a\"", "\"a\"b\"", "\"a\nb\"", "\"\t\"", "\"\x1f\"", "\"\x7f\"", "\"\x00\"", "\"\u00e9\"",
		"a~b", "~", "(a ~)", "a\tb", "\t", "\r\n", "a\rb", "\x00", "\x1f", "\x7f", "a\x80", "\xff", "\u00e9", "\u00a0", "\ufffd",
	} {
		forms, ok := impl.ExpRead(text)
		if ok || len(forms) != 0 {
			t.Errorf("%q: %v %v", text, forms, ok)
		}
	}
}

func TestReadLimits(t *testing.T) {
	deep := func(open string, close string, times int, inner string) string {
		return strings.Repeat(open, times) + inner + strings.Repeat(close, times)
	}
	name, blanks := impl.ExpMaxName, strings.Repeat(" ", impl.ExpMaxText-4)
	most, half := impl.ExpMaxForms, impl.ExpMaxDeep/2
	for _, c := range []struct {
		what       string
		meets      string
		passes     string
		formsOfMet int
	}{
		{"bytes", "(a)\n" + blanks, "(a)\n" + blanks + " ", 1},
		{"bytes of an identifier", strings.Repeat("n", name), strings.Repeat("n", name+1), 1},
		{"bytes of an identifier within", "('" + strings.Repeat("n", name) + ")", "('" + strings.Repeat("n", name+1) + ")", 1},
		{"bytes of a number", strings.Repeat("1", name), strings.Repeat("1", name+1), 1},
		{"bytes of a number below 0", "-" + strings.Repeat("1", name-1), "-" + strings.Repeat("1", name), 1},
		{"bytes of a string", "\"" + strings.Repeat(" ", name-2) + "\"", "\"" + strings.Repeat(" ", name-1) + "\"", 1},
		{"deep lists", deep("(", ")", impl.ExpMaxDeep, "a"), deep("(", ")", impl.ExpMaxDeep+1, "a"), 1},
		{"a deep list of none", deep("(", ")", impl.ExpMaxDeep, "()"), deep("(", ")", impl.ExpMaxDeep+1, "()"), 1},
		{"deep quotes", deep("'", "", impl.ExpMaxDeep, "a"), deep("'", "", impl.ExpMaxDeep+1, "a"), 1},
		{"deep lists and quotes", deep("'(", ")", half, "a"), deep("'(", ")", half, "'a"), 1},
		{"deep lists in quotes", deep("('", ")", half, "()"), deep("('", ")", half, "(1)"), 1},
		{"deep parts ahead", deep("(", " b)", impl.ExpMaxDeep, "a"), deep("(", " b)", impl.ExpMaxDeep+1, "a"), 1},
		{"deep parts behind", deep("(b ", ")", impl.ExpMaxDeep, "a"), deep("(b ", ")", impl.ExpMaxDeep+1, "a"), 1},
		{"lists that end in lists, deep as written", deep("(b . ", ")", impl.ExpMaxDeep, "a"), deep("(b . ", ")", impl.ExpMaxDeep+1, "a"), 1},
		{"lists that end in no part, deep as written", deep("(b . ", ")", impl.ExpMaxDeep, "()"), deep("(b . ", ")", impl.ExpMaxDeep+1, "()"), 1},
		{"lists that end in quotes, deep as written", deep("(b . '", ")", half, "a"), deep("(b . '", ")", half, "'a"), 1},
		{"forms", strings.Repeat("a ", most), strings.Repeat("a ", most+1), most},
		{"forms of a list", "(" + strings.Repeat("a ", most-1) + ")", "(" + strings.Repeat("a ", most) + ")", 1},
		{"forms of a list with an end", "(" + strings.Repeat("a ", most-2) + ". 1)", "(" + strings.Repeat("a ", most-1) + ". 1)", 1},
		{"forms of quotes", strings.Repeat("'a ", most/3), strings.Repeat("'a ", most/3) + "a", most / 3},
		{"forms of lists", strings.Repeat("(a)", most/2), strings.Repeat("(a)", most/2) + "()", most / 2},
		{"forms of lists that end in lists, as they come to be", strings.Repeat("(a .(a))", most/3), strings.Repeat("(a .(a))", most/3) + "1", most / 3},
		{"forms of lists that end in quotes, as they come to be", strings.Repeat("(a .'a)", most/4), strings.Repeat("(a .'a)", most/4) + "1", most / 4},
		{"forms of lists that end in no part, as they come to be", strings.Repeat("(a .())", most/2), strings.Repeat("(a .())", most/2) + "1", most / 2},
	} {
		forms, ok := impl.ExpRead(c.meets)
		if !ok || len(forms) != c.formsOfMet {
			t.Errorf("%s, met: %d forms, %v", c.what, len(forms), ok)
		}
		for _, f := range forms {
			if !impl.ExpFormOk(f) {
				t.Errorf("%s, met: %v is not ok", c.what, f)
			}
		}
		if forms, ok := impl.ExpRead(c.passes); ok || len(forms) != 0 {
			t.Errorf("%s, passed: %v %v", c.what, forms, ok)
		}
	}
}

func TestReadIsOkAndReadsAgain(t *testing.T) {
	for _, f := range someOk() {
		text := impl.ExpShow(f)
		forms, ok := impl.ExpRead(text)
		if !ok || len(forms) != 1 || !impl.ExpFormOk(forms[0]) || impl.ExpShow(forms[0]) != text {
			t.Errorf("%q: %v %v", text, forms, ok)
		}
		for i, n := range identifiers(list(forms...)) {
			if n.From != i+1 || len(n.Scopes) != 0 {
				t.Errorf("%q: identifier %d is %v", text, i, n)
			}
		}
		again, ok := impl.ExpRead(showAll(forms))
		if !ok || !sameForms(again, forms) {
			t.Errorf("%q: again %v %v", text, again, ok)
		}
	}
}

func TestReadAnswersAnyText(t *testing.T) {
	const bytes = "()' .\n\"a1#t~-\x00"
	m := formMaker{state: 7}
	for range 20000 {
		text := ""
		for range m.below(12) {
			at := m.below(len(bytes))
			text += bytes[at : at+1]
		}
		forms, ok := impl.ExpRead(text)
		again, okAgain := impl.ExpRead(showAll(forms))
		if !ok && len(forms) != 0 || !okAgain || !sameForms(forms, again) {
			t.Errorf("%q: %v %v, again %v %v", text, forms, ok, again, okAgain)
		}
	}
}

func TestReadGivesNewMemory(t *testing.T) {
	const text = "(a (b . (c d)) '(e f) . (g . h)) () x '(i j) (k . (l (m)))"
	first, _ := impl.ExpRead(text)
	if shareSome(blocksOf(first)) {
		t.Errorf("lists of the answer share memory")
	}
	second, _ := impl.ExpRead(text)
	if shareSome(append(blocksOf(first), blocksOf(second)...)) {
		t.Errorf("two answers share memory")
	}
	for i := range second {
		second[i] = impl.ExpForm{}
	}
	if third, ok := impl.ExpRead(text); !ok || !sameForms(first, third) {
		t.Errorf("the same text reads as %v and %v", first, third)
	}
}

func TestShow(t *testing.T) {
	for _, c := range []struct {
		form impl.ExpForm
		want string
	}{
		{id("a", 3, 1, 2), "a"}, {atom("-5"), "-5"}, {atom("\"a  b\""), "\"a  b\""}, {atom("#t"), "#t"},
		{list(), "()"}, {list(id("a", 1)), "(a)"}, {list(id("a", 1), list(), atom("1")), "(a () 1)"},
		{dots(id("a", 1), id("b", 2)), "(a . b)"}, {dots(id("a", 1), list(atom("1"), atom("2")), atom("\"\"")), "(a (1 2) . \"\")"},
		{list(dots(dots(id("a", 1), id("b", 2)), id("c", 3)), id("d", 4)), "(((a . b) . c) d)"},
		{list(id("quote", 1), id("x", 2)), "(quote x)"},
		{nested(impl.ExpMaxDeep, id("a", 1)), strings.Repeat("(", impl.ExpMaxDeep) + "a" + strings.Repeat(")", impl.ExpMaxDeep)},
		{wide(impl.ExpMaxForms), "(a" + strings.Repeat(" a", impl.ExpMaxForms-2) + ")"},
		{wideDots(impl.ExpMaxForms), "(a" + strings.Repeat(" a", impl.ExpMaxForms-3) + " . 1)"},
		{id(strings.Repeat("n", impl.ExpMaxName), 0), strings.Repeat("n", impl.ExpMaxName)},
	} {
		if got := impl.ExpShow(c.form); got != c.want {
			t.Errorf("%v: %q", c.form, got)
		}
	}
	for what, f := range someNotOk() {
		if got := impl.ExpShow(f); got != "" {
			t.Errorf("%s: %q", what, got)
		}
	}
}

func TestFormOk(t *testing.T) {
	for _, f := range someOk() {
		if !impl.ExpFormOk(f) {
			t.Errorf("%v is not ok", f)
		}
	}
	for what, f := range someNotOk() {
		if impl.ExpFormOk(f) {
			t.Errorf("%s is ok", what)
		}
	}
	emptyLists := impl.ExpForm{Sort: impl.ExpAtom, Text: "1", Scopes: []int{}, Kids: []impl.ExpForm{}}
	if !impl.ExpFormOk(emptyLists) {
		t.Errorf("empty lists are not taken as nil")
	}
}

func TestShowAndFormOkChangeNothing(t *testing.T) {
	for _, f := range append(someOk(), dots(id("a", 1), list(id("b", 2))), id("a", 1, 3, 2)) {
		room := roomy(f)
		show, ok := impl.ExpShow(room), impl.ExpFormOk(room)
		if !staysRoomy(room, f) {
			t.Errorf("%v was changed", f)
		}
		if show != impl.ExpShow(f) || ok != impl.ExpFormOk(f) {
			t.Errorf("%v: the answer hangs on the room", f)
		}
	}
}

func TestKindsOfForms(t *testing.T) {
	sorts := []int{impl.ExpId, impl.ExpAtom, impl.ExpList, impl.ExpDots}
	limits := []int{impl.ExpMaxText, impl.ExpMaxForms, impl.ExpMaxName, impl.ExpMaxDeep}
	if !slices.Equal(sorts, []int{1, 2, 3, 4}) || !slices.Equal(limits, []int{6000, 1500, 40, 60}) {
		t.Errorf("%v %v", sorts, limits)
	}
}

package tests

import (
	"slices"
	"strconv"
	"strings"
	"testing"

	"loop.example/siskin/impl"
)

// okBySort is a part of each Sort that is ok, with all that it may have.
func okBySort() map[int]impl.ExpCore {
	one := konst("1")
	return map[int]impl.ExpCore{
		impl.CoreConst:  one,
		impl.CoreRef:    ref("a"),
		impl.CoreLambda: lambda(names("a", "b"), true, one),
		impl.CoreCall:   call(one, one),
		impl.CoreIf:     ifOf(one, one),
		impl.CoreSet:    set("a", one),
		impl.CoreBegin:  begin(one, one),
		impl.CoreRec:    rec(names("a"), one, one),
		impl.CoreDefine: define("a", one),
	}
}

func TestCoreOkOfKids(t *testing.T) {
	one := konst("1")
	for sort, may := range map[int][]int{
		impl.CoreConst: {0}, impl.CoreRef: {0}, impl.CoreLambda: {1}, impl.CoreCall: {1, 2, 3, 4, 5}, impl.CoreIf: {2, 3}, impl.CoreSet: {1}, impl.CoreBegin: {1, 2, 3, 4, 5}, impl.CoreRec: {2}, impl.CoreDefine: {1},
	} {
		for kids := range 6 {
			c := okBySort()[sort]
			c.Kids = slices.Repeat(cores(one), kids)
			demandOk(t, cores(c), slices.Contains(may, kids))
			if kids > 0 {
				c.Kids[kids-1] = ref("#")
				demandOk(t, cores(c), false)
			}
		}
	}
	for count := range 5 {
		all := names("a", "b", "c", "d", "e")[:count]
		for kids := range 7 {
			demandOk(t, cores(rec(all, slices.Repeat(cores(one), kids)...)), count > 0 && kids == count+1)
		}
	}
}

// What only one Sort has is too much for another one.
func TestCoreOkOfWhatOtherSortsHave(t *testing.T) {
	for sort, c := range okBySort() {
		demandOk(t, cores(c), true)
		withRest, withNames, withoutNames := c, c, c
		withRest.Rest = true
		demandOk(t, cores(withRest), sort == impl.CoreLambda)
		withNames.Names = names("x")
		demandOk(t, cores(withNames), sort == impl.CoreLambda || sort == impl.CoreRec)
		withoutNames.Names = nil
		demandOk(t, cores(withoutNames), sort != impl.CoreLambda && sort != impl.CoreRec)
		withoutNames.Rest = false
		demandOk(t, cores(withoutNames), sort != impl.CoreRec)
		for text, may := range map[string][]int{
			"":     {impl.CoreLambda, impl.CoreCall, impl.CoreIf, impl.CoreBegin, impl.CoreRec},
			"b":    {impl.CoreRef, impl.CoreSet, impl.CoreDefine},
			"if":   {impl.CoreRef, impl.CoreSet, impl.CoreDefine},
			"007":  {impl.CoreRef, impl.CoreSet, impl.CoreDefine},
			"'b":   {impl.CoreConst},
			"5":    {impl.CoreConst},
			"\"\"": {impl.CoreConst},
			"#":    {},
			" ":    {},
		} {
			withText := c
			withText.Text = text
			demandOk(t, cores(withText), slices.Contains(may, sort))
		}
	}
}

func TestCoreOkOfOtherSorts(t *testing.T) {
	for _, sort := range []int{0, 10, 11, -1, -3, 1 << 40, -1 << 40} {
		for _, c := range okBySort() {
			c.Sort = sort
			demandOk(t, cores(c), false)
			demandOk(t, cores(konst("1"), begin(c)), false)
		}
		demandOk(t, cores(impl.ExpCore{Sort: sort}), false)
	}
}

func TestCoreOkOfNames(t *testing.T) {
	one, long := konst("1"), strings.Repeat("n", wordMax)
	withNames := func(all []string, want bool) {
		t.Helper()
		demandOk(t, cores(lambda(all, false, one)), want)
		demandOk(t, cores(lambda(all, true, one)), want)
		demandOk(t, cores(rec(all, slices.Repeat(cores(one), len(all)+1)...)), want)
	}
	for _, text := range []string{"a", "~", "007", "2/4", "a#", "...", "if", "quote", long} {
		withNames(names(text), true)
		withNames(names("b", text), true)
		withNames(names(text, "b"), true)
		demandOk(t, cores(ref(text), set(text, one), define(text, one)), true)
	}
	for _, text := range []string{"", ".", "#", "#a", "#t", "#f", "5", "-5", "1/2", "\"\"", "\"", "a b", " a", "a\n", "a\t", "a(", ")", "'a", "a\"", "\x7f", "\x00", "\x80", "\u00e9", long + "n"} {
		withNames(names(text), false)
		withNames(names("b", text), false)
		withNames(names(text, "b"), false)
		for _, c := range cores(ref(text), set(text, one), define(text, one)) {
			demandOk(t, cores(c), false)
		}
	}
	withNames(names("a", "a"), false)
	withNames(names("a", "b", "a"), false)
	withNames(names("a", "b", "b"), false)
	withNames(names("a", "b", "c", "d", "e"), true)
	demandOk(t, cores(lambda(nil, false, one)), true)
	demandOk(t, cores(lambda(nil, true, one)), false)
	demandOk(t, cores(lambda(names("a"), false, lambda(names("a"), false, one)), rec(names("a"), one, rec(names("a"), one, one))), true)
	demandOk(t, cores(define("a", one), define("a", one)), true)
	demandOk(t, cores(lambda([]string{}, false, one), impl.ExpCore{Sort: impl.CoreRef, Text: "a", Names: []string{}, Kids: cores()}), true)
}

func TestCoreOkOfConstants(t *testing.T) {
	long := strings.Repeat("n", wordMax)
	sixty := strings.Repeat("9", impl.NumMaxDigits)
	for _, text := range []string{
		"0", "-5", "1/2", sixty, "-" + sixty, sixty + "/" + "1" + strings.Repeat("0", impl.NumMaxDigits-1), "#t", "#f", "\"\"", "\"a  '(b\"", "\"" + strings.Repeat(" ", wordMax-2) + "\"",
		"'a", "'quote", "'007", "'1.5", "'-0", "'+", "'...", "'" + long,
		"'()", "'(a)", "'(1)", "'(a 1 #t \"s  s\" ())", "'(())", "'((a) (b))", "'(quote a)", "'(quote . a)", "'(a . b)", "'(a . 1)", "'(a . #t)", "'(a . \"s\")", "'(a b . c)", "'((a . b) . c)", "'(() . a)", "'(" + long + " . " + long + ")", "'(2/4 007)", "'(if (lambda))",
	} {
		if !wantConstant(text) {
			t.Fatalf("%q is none by the words", text)
		}
		demandOk(t, cores(konst(text)), true)
		demandOk(t, cores(call(ref("f"), konst(text))), true)
	}
	for _, text := range []string{
		"", "'", "''", "a", "007", "1.5", "2/4", "+1", "-0", "1/1", " 1", "1 ", "#", "#q", "#true", "\"", "\"a", "a\"", "\"a\"b\"", "\"a\nb\"", "\"\x7f\"", "\"" + strings.Repeat(" ", wordMax-1) + "\"", "9" + sixty,
		"'1", "'-5", "'1/2", "'#t", "'#f", "'\"s\"", "'\"s", "'#q", "'.", "''a", "'\x80", "'" + long + "n", "'a ", "' a", "'a b", "'a\n", "'a)", "'a'", "'a(b)",
		"()", "(a)", "'(", "')", "'(a", "'a)", "'(a))", "'((a)", "'()()", "'() ", "' ()", "'( )", "'( a)", "'(a )", "'(a  b)", "'(a\nb)", "'(a\n)", "'(a\tb)", "'(a(b))", "'((a)(b))", "'((a)b)", "'(\"s\"\"s\")", "'(a\"s\")",
		"'(a . (b))", "'(a . ())", "'(a . (b . c))", "'(. a)", "'( . a)", "'(.)", "'(a .)", "'(a . )", "'(a  . b)", "'(a .  b)", "'(a . b )", "'(a . b c)", "'(a . b . c)", "'(a . . b)", "'((. a))", "'(a .\"s\")", "'(a .b . (c))", "'(a . 'b)", "'('a)", "'(a 'b)",
		"'(#q)", "'(a #)", "'(a . #q)", "'(\"a)", "'(a . \"s)", "'(\"a\nb\")", "'(\x80)", "'(" + long + "n)", "'(a . " + long + "n)", "'(\"" + strings.Repeat(" ", wordMax-1) + "\")",
	} {
		if wantConstant(text) {
			t.Fatalf("%q is one by the words", text)
		}
		demandOk(t, cores(konst(text)), false)
		demandOk(t, cores(konst("1"), call(ref("f"), konst(text))), false)
	}
	for _, text := range []string{"'(1.5)", "'(+1)", "'(-0)", "'(a.b .c)", "'(a .b)", "'(a. b)"} {
		demandOk(t, cores(konst(text)), true)
	}
}

// Data in a constant are as deep as data may be, counted from its outermost list.
func TestCoreOkOfDeepConstants(t *testing.T) {
	for _, inner := range []string{"a", "()", "1", "\"s\""} {
		for _, ends := range [][2]string{{"(", ")"}, {"(b ", " c)"}, {"(1 ", " . c)"}} {
			met := "'" + strings.Repeat(ends[0], impl.CoreMaxDeep) + inner + strings.Repeat(ends[1], impl.CoreMaxDeep)
			demandOk(t, cores(konst(met)), true)
			demandOk(t, cores(konst("'"+ends[0]+met[1:]+ends[1])), false)
		}
	}
	demandOk(t, cores(konst("'"+strings.Repeat("(", 100000))), false)
	demandOk(t, cores(konst("'"+strings.Repeat("(", 100000)+strings.Repeat(")", 100000))), false)
	demandOk(t, cores(konst("'("+strings.Repeat("a ", 100000)+"a)")), true)
}

func TestCoreOkOfAnyConstants(t *testing.T) {
	m := partMaker{formMaker{state: 33}}
	const bytes = "()' .a1\""
	ok := 0
	for range 30000 {
		text := "'"
		for range m.below(9) {
			text += bytes[m.below(len(bytes)):][:1]
		}
		if m.below(3) == 0 {
			text = "'" + strings.ReplaceAll(m.quoted(3), "\n", " ")
		}
		want := wantConstant(text)
		if impl.CoreOk(cores(konst(text))) != want {
			t.Errorf("%q: ok is %v", text, !want)
		}
		if want {
			ok++
		}
	}
	if ok < 2000 || ok > 20000 {
		t.Errorf("%d are ok", ok)
	}
}

func TestCoreOkOfDefinesWithin(t *testing.T) {
	one, def := konst("1"), define("d", konst("1"))
	demandOk(t, cores(def), true)
	demandOk(t, cores(def, one, def), true)
	for _, c := range cores(call(def), call(one, def), ifOf(def, one), ifOf(one, one, def), begin(def), begin(one, def), set("a", def), lambda(nil, false, def), rec(names("a"), def, one), rec(names("a"), one, def), define("a", def), call(begin(call(def)))) {
		demandOk(t, cores(c), false)
		demandOk(t, cores(def, c), false)
	}
}

// deepPart is a part within so many others.
func deepPart(deep int, c impl.ExpCore) impl.ExpCore {
	for i := range deep {
		switch i % 5 {
		case 0:
			c = call(c)
		case 1:
			c = begin(konst("1"), c)
		case 2:
			c = lambda(nil, false, c)
		case 3:
			c = ifOf(konst("1"), konst("1"), c)
		case 4:
			c = set("a", c)
		}
	}
	return c
}

func TestCoreOkLimits(t *testing.T) {
	one := konst("1")
	most, deep := impl.CoreMaxNodes, impl.CoreMaxDeep
	many := func(count int) []impl.ExpCore { return slices.Repeat(cores(one), count) }
	demandOk(t, nil, true)
	demandOk(t, []impl.ExpCore{}, true)
	demandOk(t, cores(deepPart(deep, one)), true)
	demandOk(t, cores(deepPart(deep+1, one)), false)
	demandOk(t, cores(one, deepPart(deep, one), one), true)
	demandOk(t, cores(one, deepPart(deep+1, one), one), false)
	demandOk(t, cores(define("a", deepPart(deep-1, one))), true)
	demandOk(t, cores(define("a", deepPart(deep, one))), false)
	demandOk(t, cores(call(one, one, deepPart(deep-1, one))), true)
	demandOk(t, cores(call(one, one, deepPart(deep, one))), false)
	demandOk(t, many(most), true)
	demandOk(t, many(most+1), false)
	demandOk(t, cores(call(many(most-1)...)), true)
	demandOk(t, cores(call(many(most)...)), false)
	demandOk(t, cores(begin(many(most-2)...), one), true)
	demandOk(t, cores(begin(many(most-2)...), one, one), false)
	demandOk(t, cores(one, one, begin(call(many(most-4)...))), true)
	demandOk(t, cores(one, one, begin(call(many(most-3)...))), false)
	var all []string
	for i := range most {
		all = append(all, "n"+strconv.Itoa(i))
	}
	demandOk(t, cores(rec(all[:most-2], many(most-1)...)), true)
	demandOk(t, cores(rec(all[:most-1], many(most)...)), false)
	demandOk(t, cores(lambda(all, true, one)), true)
	demandOk(t, cores(lambda(append(all, all[0]), true, one)), false)
	for _, parts := range []int{1, 2, 1000} {
		demandNoWheel(t, coreWheel(parts))
	}
	shared := many(most / 2)
	demandOk(t, cores(call(shared...), call(shared...)), false)
	demandOk(t, cores(call(shared[:most/2-1]...), call(shared[:most/2-1]...)), true)
}

// demandNoWheel demands that parts whose Kids hold them again are not ok; they can't be shown.
func demandNoWheel(t *testing.T, wheel []impl.ExpCore) {
	t.Helper()
	code, ok := impl.CoreFlat(wheel)
	if impl.CoreOk(wheel) || ok || len(code.Nodes) != 0 || len(code.Tops) != 0 {
		t.Error("a wheel is ok")
	}
}

func TestCoreOkByTheWords(t *testing.T) {
	m := partMaker{formMaker{state: 14}}
	ok := 0
	for range 30 {
		for _, c := range someParts() {
			for range m.below(3) {
				c = m.changed(c)
			}
			want := wantCoreOk(cores(c))
			if want {
				ok++
			}
			demandOk(t, cores(c), want)
		}
	}
	if ok < 3000 || ok > 9000 {
		t.Errorf("%d are ok", ok)
	}
	other := coreMaker{formMaker{state: 2}}
	for range 3000 {
		list := cores(other.core(2), other.wellMade(3))
		demandOk(t, list, wantCoreOk(list))
	}
}

func TestCoreFlat(t *testing.T) {
	node := func(sort int, text string, kids ...int) impl.CoreNode {
		return impl.CoreNode{Sort: sort, Text: text, Kids: kids}
	}
	for text, want := range map[string]impl.CoreCode{
		"":       {},
		"a":      {Nodes: []impl.CoreNode{node(impl.CoreRef, "a")}, Tops: []int{0}},
		"a 1 'b": {Nodes: []impl.CoreNode{node(impl.CoreRef, "a"), node(impl.CoreConst, "1"), node(impl.CoreConst, "'b")}, Tops: []int{0, 1, 2}},
		"(f (if 1 x)) 2": {Nodes: []impl.CoreNode{
			node(impl.CoreRef, "f"), node(impl.CoreConst, "1"), node(impl.CoreRef, "x"), node(impl.CoreIf, "", 1, 2), node(impl.CoreCall, "", 0, 3), node(impl.CoreConst, "2"),
		}, Tops: []int{4, 5}},
		"(define f (lambda (a . r) (set! a 1))) (begin (f) f)": {Nodes: []impl.CoreNode{
			node(impl.CoreConst, "1"), node(impl.CoreSet, "a", 0), {Sort: impl.CoreLambda, Rest: true, Names: names("a", "r"), Kids: []int{1}}, node(impl.CoreDefine, "f", 2),
			node(impl.CoreRef, "f"), node(impl.CoreCall, "", 4), node(impl.CoreRef, "f"), node(impl.CoreBegin, "", 5, 6),
		}, Tops: []int{3, 7}},
		"(rec (a b) (lambda () b) 2 (a))": {Nodes: []impl.CoreNode{
			node(impl.CoreRef, "b"), node(impl.CoreLambda, "", 0), node(impl.CoreConst, "2"), node(impl.CoreRef, "a"), node(impl.CoreCall, "", 3), {Sort: impl.CoreRec, Names: names("a", "b"), Kids: []int{1, 2, 4}},
		}, Tops: []int{5}},
	} {
		list, ok := impl.CoreRead(text)
		code, okFlat := impl.CoreFlat(list)
		if !ok || !okFlat || !sameCode(code, want) {
			t.Errorf("%q: %v %v", text, code, okFlat)
		}
	}
}

func TestCoreFlatByTheWords(t *testing.T) {
	all := someParts()
	for len(all) > 0 {
		list := all[:min(7, len(all))]
		all = all[len(list):]
		code, ok := impl.CoreFlat(list)
		if !ok || !sameCode(code, wantFlat(list)) {
			t.Fatalf("%q: %v %v", programShown(list), code, ok)
		}
		demandKidsAhead(t, code)
	}
}

// demandKidsAhead is the promise of CoreFlat.
func demandKidsAhead(t *testing.T, code impl.CoreCode) {
	t.Helper()
	for place, node := range code.Nodes {
		for _, kid := range node.Kids {
			if kid < 0 || kid >= place {
				t.Errorf("%d of the part at %d", kid, place)
			}
		}
	}
}

func TestCoreFlatOfAsMuchAsMayBe(t *testing.T) {
	deep := deepPart(impl.CoreMaxDeep, konst("1"))
	code, ok := impl.CoreFlat(cores(deep, deep))
	if !ok || !sameCode(code, wantFlat(cores(deep, deep))) {
		t.Errorf("deep: %v", ok)
	}
	many := slices.Repeat(cores(call(ref("f"))), impl.CoreMaxNodes/2)
	code, ok = impl.CoreFlat(many)
	if !ok || len(code.Nodes) != impl.CoreMaxNodes || !sameCode(code, wantFlat(many)) {
		t.Errorf("many: %v", ok)
	}
}

func blocksOfCode(code impl.CoreCode) []block {
	all := append(blockOf(code.Nodes), blockOf(code.Tops)...)
	for _, node := range code.Nodes {
		all = append(append(all, blockOf(node.Names)...), blockOf(node.Kids)...)
	}
	return all
}

func TestPartsStayAsTheyAre(t *testing.T) {
	all := someParts()
	for i := range 60 {
		list := all[i*5 : i*5+5]
		room := roomyCores(list)
		code, ok := impl.CoreFlat(room)
		again, _ := impl.CoreFlat(room)
		if !ok || !impl.CoreOk(room) || !sameCode(code, again) {
			t.Fatalf("%q is not the same again", programShown(list))
		}
		if !stayRoomyCores(room, list) {
			t.Fatalf("%q is changed", programShown(list))
		}
		demandOwnBlocks(t, programShown(list), blocksOfCode(code), append(blocksOfCores(room), blocksOfCode(again)...))
	}
}

// Programs whose bound names are other ones are ok together, and ExpAlpha.
func TestProgramsWithOtherNames(t *testing.T) {
	ok := 0
	for _, c := range someParts() {
		r := renamer{}
		other := r.renamed(c, nil)
		if !impl.CoreOk(cores(c)) || !impl.CoreOk(cores(other)) || !impl.ExpAlpha(cores(c), cores(other)) {
			t.Errorf("%q and %q", impl.ExpCoreShow(c), impl.ExpCoreShow(other))
		}
		again, read := impl.CoreRead(impl.ExpCoreShow(other))
		if !read || !impl.ExpAlpha(again, cores(c)) {
			t.Errorf("%q is read as %v", impl.ExpCoreShow(other), again)
		}
		if r.count > 0 {
			ok++
		}
	}
	if ok < 50 {
		t.Errorf("only %d bind names", ok)
	}
}

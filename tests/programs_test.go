package tests

import (
	"slices"
	"strings"
	"testing"

	"loop.example/siskin/impl"
)

func TestCoreReadOfEachWord(t *testing.T) {
	one, a := konst("1"), ref("a")
	demandReads(t, map[string][]impl.ExpCore{
		"":                             {},
		" \n\n  ":                      {},
		"1":                            {one},
		"a 1\na":                       {a, one, a},
		"(a)":                          {call(a)},
		"(1 \"s\" a)":                  {call(one, konst("\"s\""), a)},
		"((a) 1)":                      {call(call(a), one)},
		"(if a 1)":                     {ifOf(a, one)},
		"(if a 1 (a))":                 {ifOf(a, one, call(a))},
		"(begin 1)":                    {begin(one)},
		"(begin 1 a (begin a))":        {begin(one, a, begin(a))},
		"(set! a 1)":                   {set("a", one)},
		"(define a 1)":                 {define("a", one)},
		"(define a 1)(define a a)":     {define("a", one), define("a", a)},
		"(lambda () 1)":                {lambda(nil, false, one)},
		"(lambda (a) a)":               {lambda(names("a"), false, a)},
		"(lambda (b a) (a 1))":         {lambda(names("b", "a"), false, call(a, one))},
		"(lambda (b . a) a)":           {lambda(names("b", "a"), true, a)},
		"(lambda (b c . a) a)":         {lambda(names("b", "c", "a"), true, a)},
		"(lambda (. a) a)":             {lambda(names("a"), true, a)},
		"(lambda ( . a ) a)":           {lambda(names("a"), true, a)},
		"(rec (a) 1 a)":                {rec(names("a"), one, a)},
		"(rec (a b) 1 a (a))":          {rec(names("a", "b"), one, a, call(a))},
		"(quote a)":                    {konst("'a")},
		"(quote a 1)":                  {call(ref("quote"), a, one)},
		"(quote)":                      {call(ref("quote"))},
		"quote if begin lambda rec":    {ref("quote"), ref("if"), ref("begin"), ref("lambda"), ref("rec")},
		"set! define":                  {ref("set!"), ref("define")},
		"(lambda (if rec) (a if))":     {lambda(names("if", "rec"), false, call(a, ref("if")))},
		"(set! set! if)":               {set("set!", ref("if"))},
		"(define define define)":       {define("define", ref("define"))},
		"(IF a)(Quote a)":              {call(ref("IF"), a), call(ref("Quote"), a)},
		"(\"if\" a)":                   {call(konst("\"if\""), a)},
		"(\"quote\" a)":                {call(konst("\"quote\""), a)},
		"(1 if a)":                     {call(one, ref("if"), a)},
		"((a) quote a)":                {call(call(a), ref("quote"), a)},
		"('if a)":                      {call(konst("'if"), a)},
		"((if a 1) lambda a)":          {call(ifOf(a, one), ref("lambda"), a)},
		"((quote) 1)":                  {call(call(ref("quote")), one)},
		"(a (lambda () (set! a (a))))": {call(a, lambda(nil, false, set("a", call(a))))},
		"(lambda 'a 1)":                {lambda(names("quote", "a"), false, one)},
		"(rec 'a 1 1 a)":               {rec(names("quote", "a"), one, one, a)},
	})
}

func TestCoreReadOfWrongLengths(t *testing.T) {
	demandNotRead(t,
		"()", "(())", "(a ())", "(() a)", "(quote () ())", "(quote a ())",
		"(if)", "(if a)", "(if a 1 1 1)", "(if ())", "(begin)", "(begin ())",
		"(set!)", "(set! a)", "(set! a 1 1)", "(set! a ())", "(define)", "(define a)", "(define a 1 1)", "(define a ())",
		"(lambda)", "(lambda ())", "(lambda (a))", "(lambda (a) a a)", "(lambda a)", "(lambda (a) ())",
		"(rec)", "(rec ())", "(rec () 1)", "(rec (a))", "(rec (a) 1)", "(rec (a) 1 1 1)", "(rec (a b) 1 1)", "(rec (a b) 1 1 1 1)", "(rec (a) () 1)",
		"(a (if))", "(lambda () (begin))", "1 (if a) 1",
	)
}

func TestCoreReadOfSomethingElse(t *testing.T) {
	demandNotRead(t,
		"(set! 1 1)", "(set! #t 1)", "(set! \"a\" 1)", "(set! (a) 1)", "(set! () 1)", "(set! 'a 1)", "(set! #q 1)", "(set! 1/2 1)",
		"(define 1 1)", "(define #f 1)", "(define \"a\" 1)", "(define (a) 1)", "(define (a b) 1)", "(define 'a 1)", "(define #a 1)",
		"(lambda a a)", "(lambda 1 1)", "(lambda \"a\" 1)", "(lambda (1) 1)", "(lambda (\"a\") 1)", "(lambda ((a)) 1)", "(lambda (a (b)) 1)", "(lambda (()) 1)", "(lambda ('a) 1)", "(lambda (#t) 1)", "(lambda (#q) 1)",
		"(lambda (a . 1) 1)", "(lambda (a . \"b\") 1)", "(lambda (a . (b)) 1)", "(lambda (a . ()) 1)", "(lambda (a . 'b) 1)", "(lambda (. (a)) 1)", "(lambda (. 1) 1)", "(lambda (1 . a) 1)", "(lambda ((a) . b) 1)",
		"(lambda (a a) 1)", "(lambda (a b a) 1)", "(lambda (a . a) 1)", "(lambda (a b . a) 1)", "(lambda '1 1)", "(lambda '(a) 1)", "(lambda 'quote 1)", "(lambda ''a 1)",
		"(rec a 1 1)", "(rec 1 1 1)", "(rec (1) 1 1)", "(rec (\"a\") 1 1)", "(rec ((a)) 1 1)", "(rec (a a) 1 1 1)", "(rec (a . b) 1 1 1)", "(rec (. a) 1 1)", "(rec (a . b) 1 1)", "(rec (a . (b)) 1 1 1)",
		"(a (define a 1))", "(begin (define a 1))", "(if a (define a 1))", "(lambda () (define a 1))", "(define a (define a 1))", "(set! a (define a 1))", "(rec (a) (define b 1) 1)", "((define a 1))",
	)
}

func TestCoreReadOfListsThatEndInSomething(t *testing.T) {
	demandNotRead(t,
		"(a . b)", "(a b . c)", "(. a)", "(a . 1)", "(a . (b))", "(a . ())", "(a . 'b)", "((a . b))", "(. (a b))",
		"(if a b . c)", "(if . a)", "(if a . (b))", "(begin . a)", "(begin a . b)", "(set! . a)", "(set! a . 1)", "(set! a . (1))", "(define a . 1)", "(define . a)", "(define a . (1))",
		"(lambda . a)", "(lambda (a) . a)", "(lambda (a) a . a)", "(lambda . ((a) a))", "(rec . a)", "(rec (a) 1 . a)", "(rec (a) 1 a . a)",
		"(quote . a)", "(quote a . b)", "(quote . (a))", "(a (b . c))", "(lambda (a) (a . a))",
		"(a .)", "(a . )", "(. )", "(.)", "( . . a)", "(a . . b)", "(a . b c)", "(a . b . c)", "(lambda (a .) a)", "(lambda (.) 1)", "(lambda (a . b c) 1)", "(lambda (a . . b) 1)", "(lambda (a . b . c) 1)",
		".", ". a", "a . b", "'.", "(quote .)", "'(a .)", "'(. . a)", "(quote . . a)",
	)
}

func TestCoreReadOfQuoted(t *testing.T) {
	for datum, shown := range map[string]string{
		"a": "'a", "+": "'+", "-": "'-", "...": "'...", "007": "'007", "quote": "'quote", "define": "'define", "a.b": "'a.b",
		"5": "5", "-1/2": "-1/2", "#t": "#t", "#f": "#f", "\"\"": "\"\"", "\"a b\"": "\"a b\"",
		"()": "'()", "( \n)": "'()", "(a)": "'(a)", "(a 1 \"(\" #t)": "'(a 1 \"(\" #t)", "(())": "'(())", "((a) (b c) d)": "'((a) (b c) d)", "( a\n\n(b )1)": "'(a (b) 1)", "(a(b)c)": "'(a (b) c)",
		"(a . b)": "'(a . b)", "(a b . c)": "'(a b . c)", "(a . 1)": "'(a . 1)", "(a . \"s\")": "'(a . \"s\")", "(a . #f)": "'(a . #f)", "((a) . b)": "'((a) . b)", "((a . b) . c)": "'((a . b) . c)", "(a .\"s\")": "'(a . \"s\")", "( a\n.\nb )": "'(a . b)", "(() . a)": "'(() . a)",
		"(if)": "'(if)", "(lambda a)": "'(lambda a)", "(define a 1)": "'(define a 1)", "(a .. b)": "'(a .. b)",
		"'a": "'(quote a)", "'5": "'(quote 5)", "'()": "'(quote ())", "''a": "'(quote (quote a))", "('a)": "'((quote a))", "(quote a)": "'(quote a)", "(quote a b)": "'(quote a b)", "(a '(b . c))": "'(a (quote (b . c)))", "('a . b)": "'((quote a) . b)", "(quote . a)": "'(quote . a)",
	} {
		demandReads(t, map[string][]impl.ExpCore{
			"'" + datum:             {konst(shown)},
			"' \n" + datum:          {konst(shown)},
			"(quote " + datum + ")": {konst(shown)},
			"(f '" + datum + "'a)":  {call(ref("f"), konst(shown), konst("'a"))},
		})
		demandNotRead(t, "'"+datum+")", "("+"'"+datum, "'"+datum+"'", "'(quote (a . ("+datum+")))")
	}
	for _, datum := range []string{
		"(1 . (b))", "(a . ())", "(a . 'b)", "(a . (b . c))", "((a . (b)))", "(. a)", "(. ())", "((. a))", "(a (. b))", "(a . (. b))",
		"#q", "(#q)", "(a . #q)", "\"a\nb\"", "(\"\x7f\")", "(a\tb)", "\xff", "(\xff)", "(a . \xff)", ")", "(", "(a", "\"a", "(a . b c)",
		strings.Repeat("n", wordMax+1), "(" + strings.Repeat("n", wordMax+1) + ")", "\"" + strings.Repeat("s", wordMax-1) + "\"", "(a . \"" + strings.Repeat("s", wordMax-1) + "\")",
	} {
		demandNotRead(t, "'"+datum, "''"+datum, "(quote "+datum+" )", "(f '"+datum+" )")
	}
}

func TestCoreReadOfWords(t *testing.T) {
	name, sixty := strings.Repeat("n", wordMax), strings.Repeat("9", impl.NumMaxDigits)
	tens := "1" + strings.Repeat("0", impl.NumMaxDigits-1)
	for _, text := range []string{"0", "7", "-7", "1/2", "-22/7", "10", sixty, "-" + sixty, sixty + "/" + tens, "-" + sixty + "/" + tens, "#t", "#f", "\"\"", "\" \"", "\"a (b) ' ~ #.\"", "\"" + strings.Repeat("~", wordMax-2) + "\""} {
		demandReads(t, map[string][]impl.ExpCore{text: {konst(text)}, "(a " + text + ")": {call(ref("a"), konst(text))}, "(quote " + text + ")": {konst(text)}})
		demandNotRead(t, "(set! "+text+" 1)", "(define "+text+" 1)", "(lambda ("+text+") 1)", "(lambda (a . "+text+") 1)", "(rec ("+text+") 1 1)")
	}
	for _, text := range []string{"a", "~", "!", "a#", "a~1", "+", "-", "...", "..", ".a", "a.", "[", "}", "`", ",", ";", "\\", "|", "007", "00", "2/4", "4/2", "1/1", "+1", "1.5", "-0", "0/5", "1/0", "1/", "/2", "1e3", "--1", "ff", ".5", "5.", "-1/-2", name, strings.Repeat("0", wordMax), "0" + sixty[1:]} {
		demandReads(t, map[string][]impl.ExpCore{text: {ref(text)}, "(set! " + text + " 1)": {set(text, konst("1"))}, "(lambda (" + text + ") " + text + ")": {lambda(names(text), false, ref(text))}, "(lambda (. " + text + ") 1)": {lambda(names(text), true, konst("1"))}, "(rec (" + text + ") 1 1)": {rec(names(text), konst("1"), konst("1"))}, "(define " + text + " 1)": {define(text, konst("1"))}, "'" + text: {konst("'" + text)}})
	}
	for _, text := range []string{
		"#", "#q", "#T", "#tt", "#t1", "##", "#\\a", name + "n", "9" + sixty, strings.Repeat("0", wordMax+1), "+" + sixty, "1/" + sixty + "9",
		"a\tb", "\t", "\r", "a\r", "\x00", "\x1f", "\x7f", "a\x7f", "\x80", "a\xff", "\u00e9", "\u00a0", "\ufeffa",
		"\"\t\"", "\"\n\"", "\"\x1f\"", "\"\x7f\"", "\"\x80\"", "\"\u00e9\"", "\"" + strings.Repeat("s", wordMax-1) + "\"",
	} {
		demandNotRead(t, text, "(a "+text+")", "'"+text, "(set! "+text+" 1)", "(lambda ("+text+") 1)", "(lambda (a . "+text+") 1)", "(rec ("+text+") 1 1)", "(define "+text+" 1)")
	}
}

func TestCoreReadBetweenData(t *testing.T) {
	a, s := ref("a"), konst("\"s\"")
	for text, want := range map[string][]impl.ExpCore{
		"a\"s\"a":       {a, s, a},
		"\"s\"\"s\"":    {s, s},
		"(a)a(a)":       {call(a), a, call(a)},
		"(a(a)\"s\")":   {call(a, call(a), s)},
		"a'a'(a)":       {a, konst("'a"), konst("'(a)")},
		"\"s\"'a":       {s, konst("'a")},
		"1'1":           {konst("1"), konst("1")},
		"(lambda(a)a)":  {lambda(names("a"), false, a)},
		"(lambda(.a)a)": {lambda(names(".a"), false, a)},
		"(a .a)":        {call(a, ref(".a"))},
		"(a. a)":        {call(ref("a."), a)},
		"(a .\"s\"a)":   nil,
	} {
		if want == nil {
			demandNotRead(t, text)
			continue
		}
		demandReads(t, map[string][]impl.ExpCore{text: want})
	}
	const spread = "_( _lambda _( _a _b _. _r _) _( _if _a _' _( _b _. _c _) _\"s\" _) _) _"
	want := cores(lambda(names("a", "b", "r"), true, ifOf(a, konst("'(b . c)"), s)))
	for _, blank := range []string{" ", "\n", "  \n\n ", ""} {
		demandReads(t, map[string][]impl.ExpCore{strings.ReplaceAll(spread, "_", blank): want})
	}
	parts := strings.Split(spread, "_")
	for _, blank := range []string{"\t", "\r", "\r\n", "\v", "\f", "\x00", "\u00a0"} {
		for i := 1; i < len(parts); i++ {
			demandNotRead(t, strings.Join(parts[:i], " ")+blank+strings.Join(parts[i:], " "))
		}
	}
}

func TestCoreReadOfTextsThatEndTooEarlyOrGoOn(t *testing.T) {
	const text = "(lambda (a . r) (if a '(b . c) (f \"s\")))"
	for end := range len(text) {
		if end > 0 {
			demandNotRead(t, text[:end])
		}
	}
	demandNotRead(t, text+")", text+" )", text+"'", text+"(", text+"\"", text+" .", text+" . a", text+"#", ")"+text, "'", "a '", "(')", "'')", "(a '))", "\"", "(a \"b)", "(", ")", "(a))", "((a)")
}

func TestCoreReadDeep(t *testing.T) {
	deep := func(open, close string, times int, inner string) string {
		return strings.Repeat(open, times) + inner + strings.Repeat(close, times)
	}
	most := impl.CoreMaxDeep
	for _, c := range [][2]string{
		{deep("(", ")", most, "a"), deep("(", ")", most+1, "a")},
		{deep("(f ", ")", most, "1"), deep("(f ", ")", most+1, "1")},
		{deep("(if 1 ", ")", most, "a"), deep("(if 1 ", ")", most+1, "a")},
		{deep("(begin ", " 1)", most, "a"), deep("(begin ", " 1)", most+1, "a")},
		{deep("(set! a ", ")", most, "a"), deep("(set! a ", ")", most+1, "a")},
		{"(define a " + deep("(", ")", most-1, "a") + ")", "(define a " + deep("(", ")", most, "a") + ")"},
		{deep("(lambda () ", ")", most, "a"), deep("(lambda () ", ")", most+1, "a")},
		{deep("(", ")", most-1, "lambda (a) a"), deep("(", ")", most, "lambda (a) a")},
		{deep("(", ")", most, "lambda () a"), deep("(", ")", most+1, "lambda () a")},
		{deep("(", ")", most-1, "rec (a) 1 1"), deep("(", ")", most, "rec (a) 1 1")},
		{"'" + deep("(", ")", most-1, "a"), "'" + deep("(", ")", most, "a")},
		{"'" + deep("(", ")", most-1, "()"), "'" + deep("(", ")", most, "()")},
		{"'" + deep("(", ")", most-1, "a . b"), "'" + deep("(", ")", most, "a . b")},
		{deep("'", "", most, "a"), deep("'", "", most+1, "a")},
		{deep("(", ")", most-1, "'a"), deep("(", ")", most, "'a")},
		{deep("(", ")", most-1, "'5"), deep("(", ")", most, "'5")},
		{deep("(", ")", most-1, "'()"), deep("(", ")", most, "'()")},
		{"(quote " + deep("(b ", ")", most-1, "a") + ")", "(quote " + deep("(b ", ")", most, "a") + ")"},
	} {
		list, ok := impl.CoreRead(c[0])
		if !ok || len(list) != 1 {
			t.Errorf("%q: %v", c[0], ok)
		}
		demandReadAgain(t, list)
		demandNotRead(t, c[1], "1 "+c[1])
	}
}

func TestCoreReadLimits(t *testing.T) {
	blanks := strings.Repeat(" ", impl.CoreMaxText-3)
	most := impl.CoreMaxNodes
	for _, c := range []struct {
		what, meets, passes string
		tops                int
	}{
		{"bytes", "(a)" + blanks, "(a)" + blanks + " ", 1},
		{"bytes ahead", blanks + "(a)", "\n" + blanks + "(a)", 1},
		{"bytes of nothing", strings.Repeat("\n", impl.CoreMaxText), strings.Repeat("\n", impl.CoreMaxText+1), 0},
		{"parts", strings.Repeat("a ", most), strings.Repeat("a ", most+1), most},
		{"parts of a call", "(" + strings.Repeat("a ", most-1) + ")", "(" + strings.Repeat("a ", most) + ")", 1},
		{"parts of a begin", "(begin " + strings.Repeat("1 ", most-1) + ")", "(begin " + strings.Repeat("1 ", most) + ")", 1},
		{"parts within parts", strings.Repeat("(a)", most/2), strings.Repeat("(a)", most/2) + "1", most / 2},
		{"constants", strings.Repeat("'() ", most), strings.Repeat("'()", most) + "1", most},
		{"names are no parts", "(set! a 1)(lambda (b c) 1)" + strings.Repeat("a ", most-4), "(set! a 1)(lambda (b c) 1)" + strings.Repeat("a ", most-3), most - 2},
	} {
		list, ok := impl.CoreRead(c.meets)
		if !ok || len(list) != c.tops {
			t.Errorf("%s, met: %d parts, %v", c.what, len(list), ok)
		}
		demandReadAgain(t, list)
		demandNotRead(t, c.passes)
	}
	long := "'(" + strings.Repeat("a ", impl.CoreMaxText/2-3) + "a)"
	if list, ok := impl.CoreRead(long); !ok || !sameCores(list, cores(konst(long))) {
		t.Errorf("a long constant: %v", ok)
	}
}

// The promise of what CoreRead reads, and its words, of texts that are made and of such that are broken then.
func TestCoreReadByTheWords(t *testing.T) {
	m := partMaker{formMaker{state: 21}}
	read := 0
	for range 12000 {
		text := m.program()
		for range m.below(3) {
			text = m.broken(text)
		}
		want, wantOk := wantCoreRead(text)
		list, ok := impl.CoreRead(text)
		if ok != wantOk || !sameCores(list, want) {
			t.Fatalf("%q: %v %v, not %v %v", text, list, ok, want, wantOk)
		}
		if ok && text != "" {
			demandReadAgain(t, list)
			read++
		}
	}
	if read < 2000 || read > 10000 {
		t.Errorf("%d are read", read)
	}
}

func TestCoreReadOfAnyBytes(t *testing.T) {
	const bytes = "()' .\n\"a1#t~-\x00if"
	m := partMaker{formMaker{state: 8}}
	for range 20000 {
		text := ""
		for range m.below(14) {
			text += bytes[m.below(len(bytes)):][:1]
		}
		want, wantOk := wantCoreRead(text)
		if list, ok := impl.CoreRead(text); ok != wantOk || !sameCores(list, want) {
			t.Errorf("%q: %v %v, not %v %v", text, list, ok, want, wantOk)
		}
	}
}

func TestCoreReadGivesNewMemory(t *testing.T) {
	const text = "(lambda (a b . r) (if a (begin b r) '(a . b))) (rec (f g) (f 1) (g) (h)) (define x (set! y \"s\")) (lambda (c) c)"
	first, ok := impl.CoreRead(text)
	second, _ := impl.CoreRead(text)
	if !ok {
		t.Fatal("is not read")
	}
	demandOwnBlocks(t, text, blocksOfCores(first), blocksOfCores(second))
	for i := range second {
		second[i] = impl.ExpCore{}
	}
	if third, ok := impl.CoreRead(text); !ok || !sameCores(first, third) {
		t.Errorf("the same text reads as %v and %v", first, third)
	}
}

func TestKindsOfPrograms(t *testing.T) {
	sorts := []int{impl.CoreConst, impl.CoreRef, impl.CoreLambda, impl.CoreCall, impl.CoreIf, impl.CoreSet, impl.CoreBegin, impl.CoreRec, impl.CoreDefine}
	limits := []int{impl.CoreMaxText, impl.CoreMaxNodes, impl.CoreMaxDeep}
	if !slices.Equal(sorts, []int{1, 2, 3, 4, 5, 6, 7, 8, 9}) || !slices.Equal(limits, []int{8000, 2000, 100}) {
		t.Errorf("%v %v", sorts, limits)
	}
}

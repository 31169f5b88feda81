package tests

import (
	"strings"
	"testing"

	"loop.example/siskin/impl"
)

// demandSession fails, if a text's session is not what was told, or not what the chapters ahead answer.
func demandSession(t *testing.T, text, want string) {
	t.Helper()
	if got := impl.ExpSession(text); got != want {
		t.Errorf("%s:\n%q\nand not\n%q", lastOf(text), got, want)
	}
	if by := sessionBy(text); by != want {
		t.Errorf("%s:\n%q\nby the chapters ahead, and not\n%q", lastOf(text), by, want)
	}
}

// sessionBy is what the chapters ahead answer.
func sessionBy(text string) string {
	forms, ok := impl.ExpRead(text)
	if !ok {
		return "bad text\n"
	}
	return shown(wantExpand(forms))
}

// The chapter's example, line by line: behind each line all that has come so far.
func TestSessionExample(t *testing.T) {
	text, want := "", ""
	for _, c := range []struct {
		line string
		want string
	}{
		{"(define-syntax let (syntax-rules () ((_ ((n v) ...) b c ...) ((lambda (n ...) b c ...) v ...))))", ""},
		{"(define-syntax or (syntax-rules () ((_) #f) ((_ a) a) ((_ a b ...) (let ((t a)) (if t t (or b ...))))))", ""},
		{"(define x 1)", lines("(define x 1)")},
		{"(define-syntax const (syntax-rules () ((_ id) (lambda (id) x))))", ""},
		{"(const x)", lines("(lambda (x~4) x)")},
		{"(let ((t 5)) (or #f t))", lines("((lambda (t~5) ((lambda (t~6) (if t~6 t~6 t~5)) #f)) 5)")},
		{"(let ((if list)) (or 1 (if 1 2)))", lines("((lambda (if~7) ((lambda (t~8) (if t~8 t~8 (if~7 1 2))) 1)) list)")},
		{"(define-syntax two (syntax-rules () ((_ n) (begin (define t 1) (define n t)))))", ""},
		{"(two y)", lines("(define t~g10 1)", "(define y t~g10)")},
		{"(lambda (x . r) (define y x) (define-syntax m (syntax-rules () ((_ z) (list z x)))) (m y) '(x . r))", lines("(lambda (x~11 . r~12) (rec (y~13) x~11 (begin (list y~13 x~11) '(x . r))))")},
	} {
		text += c.line + "\n"
		want += c.want
		demandSession(t, text, want)
	}
	demandSession(t, exampleText, want)
}

func TestSession(t *testing.T) {
	for text, want := range map[string]string{
		"": "", " ": "", "\n": "", " \n\n ": "", "(begin)": "", "(define-syntax m (syntax-rules ()))": "",
		"x": "x\n", "1 2": "1\n2\n", "(begin 1 (begin 2 3))": "1\n2\n3\n", "'(a . (b))": "'(a b)\n", "''a": "'(quote a)\n", "'5": "5\n", "\"a b\"": "\"a b\"\n",
		"(lambda x x)": "(lambda (. x~1) x~1)\n", "(if a b)\n(set! c 1)": "(if a b)\n(set! c 1)\n", "(define (f) (define g 1) g)": "(define f (lambda () (rec (g~1) 1 g~1)))\n",
	} {
		demandSession(t, text, want)
	}
}

// A text that cannot be read: parentheses, words and bytes that no text may have.
func TestSessionOfBadTexts(t *testing.T) {
	for _, text := range []string{
		"(", ")", "(a", "a)", "'", "(')", ".", "(. a)", "(a .)", "(a . b c)", "#", "#x", "\"", "\"a", "a~b", "~", "x (",
		"\x00", "\x01", "\t", "\r", "\x1f", "\x7f", "\x80", "\xff", "\xc3", "\u00e9", "\u00a0", "\ufffd", "a\x00b", "1\t2", "\"\t\"", "\"\n\"", "\"\u00e9\"", "(lambda (x) x)\r\n",
		strings.Repeat("n", impl.ExpMaxName+1), strings.Repeat("1", impl.ExpMaxName+1), strings.Repeat("(", impl.ExpMaxDeep+1) + "a" + strings.Repeat(")", impl.ExpMaxDeep+1), strings.Repeat("'", impl.ExpMaxDeep+1) + "a", strings.Repeat("1 ", impl.ExpMaxForms+1),
	} {
		demandSession(t, text, "bad text\n")
	}
	for b := range 256 {
		if text := string([]byte{byte(b)}); b < 32 && b != '\n' || b > 126 {
			demandSession(t, text, "bad text\n")
			demandSession(t, "(f x"+text+")", "bad text\n")
		}
	}
}

// Each fault's line; nothing of what came ahead of it is told.
func TestSessionOfFaults(t *testing.T) {
	for _, c := range []struct {
		text string
		want string
	}{
		{"()", "fault 1 at \n"}, {"(1 . 2)", "fault 1 at \n"}, {"(if 1)", "fault 1 at if\n"}, {"1 2 (lambda (x x) 1)", "fault 1 at lambda\n"},
		{"(define-syntax m (syntax-rules ())) (m 1)", "fault 2 at m\n"}, {"(define x 1) (define-syntax my (syntax-rules () ((_ a) a))) (my)", "fault 2 at my\n"},
		{unclearText, "fault 3 at x\n"},
		{countdown + counting("z", impl.ExpMaxSteps+1), "fault 4 at c\n"}, {"(define-syntax loop (syntax-rules () ((_) (loop)))) (loop)", "fault 4 at loop\n"},
		{"if", "fault 5 at if\n"}, {"x y (f lambda)", "fault 5 at lambda\n"}, {"(define-syntax m (syntax-rules ())) (set! m 1)", "fault 5 at m\n"},
		{"(define-syntax m 1)", "fault 6 at m\n"}, {"(define-syntax m (syntax-rules () ((_ a ...) a))) (m 1)", "fault 6 at m\n"},
	} {
		demandSession(t, c.text, c.want)
	}
}

func TestSessionLimits(t *testing.T) {
	text := "(lambda (x) x)\n"
	blanks := strings.Repeat(" ", impl.ExpMaxText-len(text))
	demandSession(t, text+blanks, "(lambda (x~1) x~1)\n")
	demandSession(t, blanks+text, "(lambda (x~1) x~1)\n")
	demandSession(t, text+blanks+" ", "bad text\n")
	demandSession(t, text+blanks+"\n", "bad text\n")
	demandSession(t, strings.Repeat(" ", impl.ExpMaxText), "")
	demandSession(t, strings.Repeat(" ", impl.ExpMaxText+1), "bad text\n")
	demandSession(t, strings.Repeat("x", 1<<20), "bad text\n")
	demandSession(t, strings.Repeat("1\n", impl.ExpMaxForms), strings.Repeat("1\n", impl.ExpMaxForms))
	name := strings.Repeat("n", impl.ExpMaxName)
	demandSession(t, name, name+"\n")
	demandSession(t, "(lambda ("+name+") "+name+")", "(lambda ("+name+"~1) "+name+"~1)\n")
}

// Promise 8: ExpSession answers every text, by what the chapters ahead answer.
func TestSessionAnswersEveryText(t *testing.T) {
	m := programMaker{formMaker: formMaker{state: 21}}
	for range 1500 {
		text := m.program()
		if m.below(4) == 0 {
			text = text[:m.below(len(text))]
		}
		demandSession(t, text, sessionBy(text))
	}
	words := names("(", ")", "(", ")", "'", " . ", "...", "_", "lambda", "(x)", "x", "define", "define-syntax", "m", "syntax-rules", "()", "((_ a) a)", "if", "1", "begin", "quote", "set!", "\"s\"", "\n", "\x00", "~")
	for range 20000 {
		text := ""
		for range m.below(14) {
			text += m.one(words...) + m.one(" ", " ", "")
		}
		demandSession(t, text, sessionBy(text))
	}
}

// demandReadsAgain fails, if what is read is not ok, or is another when it is shown and read again: promise 8. It says whether it was read again.
func demandReadsAgain(t *testing.T, text string) bool {
	t.Helper()
	forms, ok := impl.ExpRead(text)
	for _, f := range forms {
		if !ok || !impl.ExpFormOk(f) {
			t.Errorf("%s: %v, %v", lastOf(text), ok, f)
		}
	}
	again, okAgain := impl.ExpRead(showAll(forms))
	if tooLong := len(showAll(forms)) > impl.ExpMaxText; okAgain == tooLong || okAgain && !sameForms(forms, again) {
		t.Errorf("%s: %v and again %v %v", lastOf(text), forms, again, okAgain)
	}
	return ok && okAgain
}

// Promise 8, at texts of all kinds, and where what is shown has just as many bytes as a text may, and one more.
func TestWhatIsReadReadsAgain(t *testing.T) {
	m := programMaker{formMaker: formMaker{state: 31}}
	read := 0
	for range 2000 {
		text := strings.ReplaceAll(m.program(), ") (", m.one(")(", ") . (", ")'(", ")\n("))
		if demandReadsAgain(t, text) {
			read++
		}
	}
	if read < 500 {
		t.Errorf("only %d were read", read)
	}
	quotes := strings.Repeat("'n ", 500)
	for _, c := range []struct {
		text string
		want bool
	}{
		{exampleText, true}, {"", true}, {quotes, true}, {"(a . (b . (c . 'd)))", true}, {strings.Repeat("(a . ", impl.ExpMaxDeep) + "()" + strings.Repeat(")", impl.ExpMaxDeep), true}, {strings.Repeat("'", impl.ExpMaxDeep) + "a", true},
		{strings.Repeat("'nnn", 500) + strings.Repeat(" ", 100), true}, {strings.Repeat("'nnn", 499) + "'nnnn", false}, {strings.Repeat("'nnnnnnnnnn", 500), false},
		{strings.Repeat("a", impl.ExpMaxName) + " 1", true}, {"(", false}, {"a~", false},
	} {
		if got := demandReadsAgain(t, c.text); got != c.want {
			t.Errorf("%s: %v", lastOf(c.text), got)
		}
	}
}

package tests

import (
	"slices"
	"strings"
	"testing"

	"loop.example/siskin/impl"
)

// wordMax is how many bytes a name has at most, and a string with both its ".
const wordMax = 60

// wantLiteral is the document's words of a literal.
func wantLiteral(text string) bool {
	if text == "#t" || text == "#f" {
		return true
	}
	if n, ok := impl.NumParse(text, 10); ok && impl.NumPrint(n, 10) == text {
		return true
	}
	if len(text) < 2 || len(text) > wordMax || text[0] != '"' || text[len(text)-1] != '"' {
		return false
	}
	return !strings.ContainsFunc(text[1:len(text)-1], func(r rune) bool { return r < 32 || r > 126 || r == '"' })
}

// wantName is the document's words of a name.
func wantName(text string) bool {
	if len(text) < 1 || len(text) > wordMax || text == "." || strings.HasPrefix(text, "#") || wantLiteral(text) {
		return false
	}
	for _, b := range []byte(text) {
		if b < 33 || b > 126 || b == '(' || b == ')' || b == '"' || b == '\'' {
			return false
		}
	}
	return true
}

func wantNames(texts []string) bool {
	for i, text := range texts {
		if !wantName(text) || slices.Contains(texts[:i], text) {
			return false
		}
	}
	return true
}

// wantConstant is the document's words of a constant, gone through byte by byte.
func wantConstant(text string) bool {
	if wantLiteral(text) {
		return true
	}
	if !strings.HasPrefix(text, "'") || wantLiteral(text[1:]) {
		return false
	}
	behind, isList, ok := quotedEnd(text[1:], 0)
	return ok && behind == "" && (isList || wantName(text[1:]))
}

// quotedEnd is what of a text stands behind the literal, name or list at its beginning, within so many lists.
func quotedEnd(text string, deep int) (behind string, isList bool, ok bool) {
	if deep > impl.CoreMaxDeep {
		return "", false, false
	}
	if within, begins := strings.CutPrefix(text, "("); begins {
		behind, ok = quotedListEnd(within, deep)
		return behind, true, ok
	}
	end := strings.IndexAny(text, " )")
	if strings.HasPrefix(text, "\"") {
		end = 2 + strings.Index(text[1:], "\"")
	}
	if end < 0 {
		end = len(text)
	}
	word := text[:end]
	return text[end:], false, wantLiteral(word) || wantName(word)
}

// quotedListEnd is what of a text stands behind the list whose ( is ahead of it.
func quotedListEnd(text string, deep int) (behind string, ok bool) {
	if behind, ends := strings.CutPrefix(text, ")"); ends {
		return behind, true
	}
	for parts := 1; ; parts++ {
		dotted := false
		if parts > 1 {
			text, dotted = strings.CutPrefix(text, ". ")
		}
		rest, isList, ok := quotedEnd(text, deep+1)
		if !ok || isList && dotted {
			return "", false
		}
		if behind, ends := strings.CutPrefix(rest, ")"); ends {
			return behind, true
		}
		if text, ok = strings.CutPrefix(rest, " "); !ok || dotted {
			return "", false
		}
	}
}

// wantCoreOk is the document's words of CoreOk.
func wantCoreOk(list []impl.ExpCore) bool {
	left := impl.CoreMaxNodes
	for _, c := range list {
		if !wantPart(c, 0, &left) {
			return false
		}
	}
	return true
}

func wantPart(c impl.ExpCore, deep int, left *int) bool {
	*left--
	if *left < 0 || deep > impl.CoreMaxDeep || !wantShape(c, deep) {
		return false
	}
	for _, kid := range c.Kids {
		if !wantPart(kid, deep+1, left) {
			return false
		}
	}
	return true
}

// wantShape takes what a Sort has off it, and demands that nothing else is left.
func wantShape(c impl.ExpCore, deep int) bool {
	kids, hasText := len(c.Kids), false
	ok := false
	switch c.Sort {
	case impl.CoreConst:
		ok, hasText = kids == 0 && wantConstant(c.Text), true
	case impl.CoreRef:
		ok, hasText = kids == 0 && wantName(c.Text), true
	case impl.CoreLambda:
		ok = kids == 1 && wantNames(c.Names) && !(c.Rest && len(c.Names) == 0)
		c.Names, c.Rest = nil, false
	case impl.CoreCall, impl.CoreBegin:
		ok = kids > 0
	case impl.CoreIf:
		ok = kids == 2 || kids == 3
	case impl.CoreSet:
		ok, hasText = kids == 1 && wantName(c.Text), true
	case impl.CoreRec:
		ok = wantNames(c.Names) && len(c.Names) > 0 && kids == len(c.Names)+1
		c.Names = nil
	case impl.CoreDefine:
		ok, hasText = kids == 1 && wantName(c.Text) && deep == 0, true
	}
	return ok && len(c.Names) == 0 && !c.Rest && (hasText || c.Text == "")
}

// given is a datum: a word or string, or a list that maybe ends in something.
type given struct {
	word   string
	isList bool
	parts  []given
	end    *given
}

// givenReader reads data by going down into them.
type givenReader struct {
	text string
	bad  bool
}

func (r *givenReader) skip() {
	r.text = strings.TrimLeft(r.text, " \n")
}

// next is the byte at which one is; -1 at the end, and as soon as something is bad.
func (r *givenReader) next() int {
	r.skip()
	if r.bad || r.text == "" {
		return -1
	}
	return int(r.text[0])
}

func (r *givenReader) datum(deep int) given {
	switch b := r.next(); {
	case b < 0 || b == ')' || deep > impl.CoreMaxDeep:
		r.bad = true
		return given{}
	case b == '\'':
		r.text = r.text[1:]
		return given{isList: true, parts: []given{{word: "quote"}, r.datum(deep + 1)}}
	case b == '(':
		r.text = r.text[1:]
		return r.list(deep + 1)
	}
	return given{word: r.word()}
}

func (r *givenReader) word() string {
	isString, enders := r.text[0] == '"', " \n()\"'"
	if isString {
		enders = "\""
	}
	end := 1
	for end < len(r.text) && !strings.Contains(enders, r.text[end:end+1]) {
		end++
	}
	if isString {
		r.bad = r.bad || end == len(r.text)
		end = min(end+1, len(r.text))
	}
	word := r.text[:end]
	r.text = r.text[end:]
	return word
}

func (r *givenReader) list(deep int) given {
	g := given{isList: true}
	for r.next() != ')' && !r.bad {
		part := r.datum(deep)
		if part.word != "." {
			g.parts = append(g.parts, part)
			continue
		}
		end := r.datum(deep)
		g.end = &end
		r.bad = r.bad || end.word == "." || r.next() != ')'
	}
	if !r.bad {
		r.text = r.text[1:]
	}
	return g
}

func (g given) shown() string {
	if !g.isList {
		return g.word
	}
	var all []string
	for _, part := range g.parts {
		all = append(all, part.shown())
	}
	if g.end != nil {
		all = append(all, ".", g.end.shown())
	}
	return "(" + strings.Join(all, " ") + ")"
}

// wantCoreRead is the document's words of CoreRead.
func wantCoreRead(text string) ([]impl.ExpCore, bool) {
	r := givenReader{text: text}
	var all []impl.ExpCore
	for r.next() >= 0 {
		c, ok := r.datum(0).part()
		r.bad = r.bad || !ok
		all = append(all, c)
	}
	if r.bad || len(text) > impl.CoreMaxText || !wantCoreOk(all) {
		return nil, false
	}
	return all, true
}

func (g given) part() (impl.ExpCore, bool) {
	if !g.isList {
		if wantLiteral(g.word) {
			return konst(g.word), true
		}
		return ref(g.word), true
	}
	if g.end != nil || len(g.parts) == 0 {
		return impl.ExpCore{}, false
	}
	first, behind := g.parts[0], g.parts[1:]
	switch {
	case first.word == "quote" && len(behind) == 1:
		return quotedPart(behind[0]), true
	case first.word == "if":
		return partOf(impl.ExpCore{Sort: impl.CoreIf}, behind)
	case first.word == "begin":
		return partOf(impl.ExpCore{Sort: impl.CoreBegin}, behind)
	case first.word == "set!" && len(behind) > 0 && !behind[0].isList:
		return partOf(impl.ExpCore{Sort: impl.CoreSet, Text: behind[0].word}, behind[1:])
	case first.word == "define" && len(behind) > 0 && !behind[0].isList:
		return partOf(impl.ExpCore{Sort: impl.CoreDefine, Text: behind[0].word}, behind[1:])
	case first.word == "lambda" && len(behind) > 0 && behind[0].isListOfWords():
		return partOf(behind[0].naming(impl.CoreLambda), behind[1:])
	case first.word == "rec" && len(behind) > 0 && behind[0].isListOfWords():
		return partOf(behind[0].naming(impl.CoreRec), behind[1:])
	case slices.Contains([]string{"set!", "define", "lambda", "rec"}, first.word):
		return impl.ExpCore{}, false
	}
	return partOf(impl.ExpCore{Sort: impl.CoreCall}, g.parts)
}

func quotedPart(g given) impl.ExpCore {
	if wantLiteral(g.word) {
		return konst(g.word)
	}
	return konst("'" + g.shown())
}

func partOf(c impl.ExpCore, kids []given) (impl.ExpCore, bool) {
	for _, g := range kids {
		kid, ok := g.part()
		if !ok {
			return c, false
		}
		c.Kids = append(c.Kids, kid)
	}
	return c, true
}

func (g given) isListOfWords() bool {
	return g.isList && !slices.ContainsFunc(g.parts, func(part given) bool { return part.isList }) && (g.end == nil || !g.end.isList)
}

func (g given) naming(sort int) impl.ExpCore {
	c := impl.ExpCore{Sort: sort}
	for _, part := range g.parts {
		c.Names = append(c.Names, part.word)
	}
	if g.end != nil {
		c.Names, c.Rest = append(c.Names, g.end.word), true
	}
	return c
}

// wantFlat is the document's words of CoreFlat.
func wantFlat(list []impl.ExpCore) impl.CoreCode {
	var code impl.CoreCode
	var place func(c impl.ExpCore) int
	place = func(c impl.ExpCore) int {
		node := impl.CoreNode{Sort: c.Sort, Text: c.Text, Rest: c.Rest, Names: c.Names}
		for _, kid := range c.Kids {
			node.Kids = append(node.Kids, place(kid))
		}
		code.Nodes = append(code.Nodes, node)
		return len(code.Nodes) - 1
	}
	for _, c := range list {
		code.Tops = append(code.Tops, place(c))
	}
	return code
}

func sameCode(a, b impl.CoreCode) bool {
	return slices.Equal(a.Tops, b.Tops) && slices.EqualFunc(a.Nodes, b.Nodes, func(one, other impl.CoreNode) bool {
		return one.Sort == other.Sort && one.Text == other.Text && one.Rest == other.Rest && slices.Equal(one.Names, other.Names) && slices.Equal(one.Kids, other.Kids)
	})
}

// programShown is all parts as they are shown, a newline behind each.
func programShown(list []impl.ExpCore) string {
	text := ""
	for _, c := range list {
		text += impl.ExpCoreShow(c) + "\n"
	}
	return text
}

// demandReads demands that texts are read as parts, that these are ok, and that shown they are read again.
func demandReads(t *testing.T, cases map[string][]impl.ExpCore) {
	t.Helper()
	for text, want := range cases {
		list, ok := impl.CoreRead(text)
		if !ok || !sameCores(list, want) {
			t.Errorf("%q: %v %v", text, list, ok)
			continue
		}
		demandReadAgain(t, list)
	}
}

// demandReadAgain is the promise of CoreRead for what it read.
func demandReadAgain(t *testing.T, list []impl.ExpCore) {
	t.Helper()
	if !impl.CoreOk(list) {
		t.Errorf("%.300q is read, and not ok", programShown(list))
	}
	text := programShown(list)
	again, ok := impl.CoreRead(text)
	if len(text) <= impl.CoreMaxText && (!ok || !sameCores(again, list)) {
		t.Errorf("%.300q is read again as %v %v", text, again, ok)
	}
}

func demandNotRead(t *testing.T, texts ...string) {
	t.Helper()
	for _, text := range texts {
		if list, ok := impl.CoreRead(text); ok || len(list) != 0 {
			t.Errorf("%.300q: %v %v", text, list, ok)
		}
	}
}

// demandOk demands what CoreOk says of parts, and that CoreFlat goes by it.
func demandOk(t *testing.T, list []impl.ExpCore, want bool) {
	t.Helper()
	if impl.CoreOk(list) != want {
		t.Errorf("%.300q: ok is %v", programShown(list), !want)
	}
	code, ok := impl.CoreFlat(list)
	if ok != want || !ok && (len(code.Nodes) != 0 || len(code.Tops) != 0) {
		t.Errorf("%.300q: %v %v", programShown(list), code, ok)
	}
}

// partMaker makes texts of data, and parts, of which about half are ok, by numbers that follow a fixed rule.
type partMaker struct {
	formMaker
}

func (m *partMaker) one(of ...string) string {
	return of[m.below(len(of))]
}

func (m *partMaker) word() string {
	if m.below(9) == 0 {
		return m.one("#q", "1.5", "007", "\"a\nb\"", "\"\x7f\"", "2/4", "\xff", "+1", "-0", "quote", "if", "define")
	}
	return m.one("a", "b", "c", "x~1", "f", "1", "-7", "1/2", "#t", "\"s (\"", "set!")
}

func (m *partMaker) blank() string {
	return m.one(" ", " ", " ", "\n", "  ", " \n ")
}

func (m *partMaker) words(many int) string {
	var all []string
	for range many {
		all = append(all, m.one("a", "b", "c", "d", "e", m.word()))
	}
	text := strings.Join(all, m.blank())
	if many > 0 && m.below(4) == 0 {
		text += m.blank() + "." + m.blank() + m.one("r", "s", m.word())
	}
	return "(" + text + ")"
}

// quoted is a datum, with a list that ends in one now and then.
func (m *partMaker) quoted(deep int) string {
	if deep == 0 || m.below(3) == 0 {
		return m.word()
	}
	if m.below(6) == 0 {
		return "'" + m.quoted(deep-1)
	}
	text := ""
	for range m.below(4) {
		text += m.blank() + m.quoted(deep-1)
	}
	if m.below(4) == 0 {
		text += m.blank() + "." + m.blank() + m.quoted(m.below(2))
	}
	return "(" + text + ")"
}

func (m *partMaker) texts(least, many, deep int) string {
	text := ""
	for range least + m.below(many) {
		text += m.blank() + m.text(deep-1)
	}
	return text
}

// text is a part of a program.
func (m *partMaker) text(deep int) string {
	if deep == 0 {
		return m.word()
	}
	switch m.below(11) {
	case 0:
		return m.word()
	case 1:
		return "'" + m.quoted(3)
	case 2:
		return "(quote" + m.blank() + m.quoted(2) + ")"
	case 3:
		return "(if" + m.texts(2, 2, deep) + ")"
	case 4:
		return "(begin" + m.texts(1, 3, deep) + ")"
	case 5:
		return "(set! " + m.word() + m.texts(1, 1, deep) + ")"
	case 6, 7:
		return "(lambda" + m.blank() + m.words(m.below(3)) + m.texts(1, 1, deep) + ")"
	case 8:
		return "(rec (a" + m.blank() + "b)" + m.texts(3, 1, deep) + ")"
	}
	return "(" + m.texts(1, 3, deep) + ")"
}

func (m *partMaker) program() string {
	text := ""
	for range m.below(4) {
		if m.below(3) == 0 {
			text += "(define " + m.one("a", "b", m.word()) + m.texts(1, 1, 3) + ")"
		} else {
			text += m.text(3) + m.blank()
		}
	}
	return text
}

// broken is a text in which a byte is missing, or another one, or one more.
func (m *partMaker) broken(text string) string {
	const bytes = "()' .\n\"a1#t~-\x00"
	at := m.below(len(text) + 1)
	past := min(len(text), at+m.below(2))
	return text[:at] + []string{"", bytes[m.below(len(bytes)):][:1]}[m.below(2)] + text[past:]
}

// someParts are parts of all Sorts that are ok.
func someParts() []impl.ExpCore {
	m := partMaker{formMaker{state: 12}}
	var all []impl.ExpCore
	for len(all) < 400 {
		list, _ := impl.CoreRead(m.program())
		all = append(all, list...)
	}
	return all
}

// changed is a part of which one thing is another one, maybe within.
func (m *partMaker) changed(c impl.ExpCore) impl.ExpCore {
	c.Names = append([]string(nil), c.Names...)
	c.Kids = append([]impl.ExpCore(nil), c.Kids...)
	if len(c.Kids) > 0 && m.below(2) == 0 {
		at := m.below(len(c.Kids))
		c.Kids[at] = m.changed(c.Kids[at])
		return c
	}
	switch m.below(7) {
	case 0:
		c.Sort = m.below(12) - 1
	case 1:
		c.Text = m.one("", "a", "1", "'a", "'(a . b)", "'( a)", "#t", "x y")
	case 2:
		c.Rest = !c.Rest
	case 3:
		c.Names = append(c.Names, m.one("a", "b", "z", "1"))
	case 4:
		c.Names = c.Names[:len(c.Names)/2]
	case 5:
		c.Kids = append(c.Kids, []impl.ExpCore{konst("1"), ref("a"), define("a", konst("1"))}[m.below(3)])
	case 6:
		c.Kids = c.Kids[:len(c.Kids)/2]
	}
	return c
}

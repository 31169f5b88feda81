// Package impl: a language, from texts to what is shown.
package impl

import (
	"iter"
	"slices"
	"strings"
)

// Limits of forms.
const (
	ExpMaxText  = 6000
	ExpMaxForms = 1500
	ExpMaxName  = 40
	ExpMaxDeep  = 60
)

// Sorts of forms.
const (
	ExpId   = 1
	ExpAtom = 2
	ExpList = 3
	ExpDots = 4
)

// ExpForm is a form: an identifier with its scopes, an atom, a list, or a list that ends in something else, its last part.
type ExpForm struct {
	Sort   int
	Text   string
	Scopes []int
	From   int
	Kids   []ExpForm
}

// ExpRead reads forms; each identifier has a number, from 1 on.
func ExpRead(text string) ([]ExpForm, bool) {
	if len(text) > ExpMaxText {
		return nil, false
	}
	forms, ok := demanded(func() []form {
		return readPieces(text, &formMaker{}, ExpMaxDeep)
	})
	if !ok || sizeOfAll(forms) > ExpMaxForms {
		return nil, false
	}
	return plainOfAll(forms), true
}

// ExpShow writes a form.
func ExpShow(f ExpForm) string {
	inner, ok := openForm(f)
	if !ok {
		return ""
	}
	var out strings.Builder
	inner.show(&out)
	return out.String()
}

// ExpFormOk says whether a form is ok.
func ExpFormOk(f ExpForm) bool {
	_, ok := openForm(f)
	return ok
}

// form is an ok form inside the program. Forms may share what they are made of, as nothing is ever written into one.
type form interface {
	// plain is the form as it is handed out, in memory that nothing else has.
	plain() ExpForm
	show(out *strings.Builder)
	// size counts the form and all within it.
	size() int
	// deep is how many forms the innermost form is within.
	deep() int
	// opened is the parts and the end of a list; an ExpList ends in the list of nothing, and what is no list is an end without parts.
	opened() (parts []form, end form)
	// endOf is the list of parts that ends in this form; without parts it is this form.
	endOf(parts []form) form
	// eachId visits the identifiers, in order.
	eachId(visit func(formId))
	// changed is the form with another one for each of its identifiers.
	changed(change func(formId) formId) form
}

type formId struct {
	text   string
	scopes sortedSet[int]
	from   int
}

type formAtom struct {
	text string
}

type formList struct {
	parts []form
}

// formDots is a list whose end is a formId or a formAtom.
type formDots struct {
	parts []form
	end   form
}

func (f formId) plain() ExpForm {
	return ExpForm{Sort: ExpId, Text: f.text, Scopes: f.scopes.list(), From: f.from}
}

func (f formAtom) plain() ExpForm {
	return ExpForm{Sort: ExpAtom, Text: f.text}
}

func (f formList) plain() ExpForm {
	return ExpForm{Sort: ExpList, Kids: plainOfAll(f.parts)}
}

func (f formDots) plain() ExpForm {
	return ExpForm{Sort: ExpDots, Kids: append(plainOfAll(f.parts), f.end.plain())}
}

func plainOfAll(forms []form) []ExpForm {
	var all []ExpForm
	for _, f := range forms {
		all = append(all, f.plain())
	}
	return all
}

func (f formId) show(out *strings.Builder) {
	out.WriteString(f.text)
}

func (f formAtom) show(out *strings.Builder) {
	out.WriteString(f.text)
}

func (f formList) show(out *strings.Builder) {
	showList(f.parts, out)
}

func (f formDots) show(out *strings.Builder) {
	showDotted(f.parts, f.end, out)
}

// shown is what can be written.
type shown interface {
	show(out *strings.Builder)
}

func showAll[T shown](all []T, out *strings.Builder) {
	for i, one := range all {
		if i > 0 {
			out.WriteString(" ")
		}
		one.show(out)
	}
}

func showList[T shown](parts []T, out *strings.Builder) {
	out.WriteString("(")
	showAll(parts, out)
	out.WriteString(")")
}

// showDotted writes a list that ends in something.
func showDotted[T shown](parts []T, end T, out *strings.Builder) {
	out.WriteString("(")
	showAll(parts, out)
	out.WriteString(" . ")
	end.show(out)
	out.WriteString(")")
}

func (f formId) size() int {
	return 1
}

func (f formAtom) size() int {
	return 1
}

func (f formList) size() int {
	return 1 + sizeOfAll(f.parts)
}

func (f formDots) size() int {
	return 1 + sizeOfAll(f.parts) + f.end.size()
}

func sizeOfAll(forms []form) int {
	size := 0
	for _, f := range forms {
		size += f.size()
	}
	return size
}

func (f formId) deep() int {
	return 0
}

func (f formAtom) deep() int {
	return 0
}

func (f formList) deep() int {
	return deepAround(f.parts)
}

func (f formDots) deep() int {
	return deepAround(f.parts)
}

// deepAround is how deep a list of these parts is.
func deepAround(parts []form) int {
	deepest := 0
	for _, part := range parts {
		deepest = max(deepest, 1+part.deep())
	}
	return deepest
}

func (f formId) opened() ([]form, form) {
	return nil, f
}

func (f formAtom) opened() ([]form, form) {
	return nil, f
}

func (f formList) opened() ([]form, form) {
	return f.parts, formList{}
}

func (f formDots) opened() ([]form, form) {
	return f.parts, f.end
}

func (f formId) endOf(parts []form) form {
	return dotsOf(parts, f)
}

func (f formAtom) endOf(parts []form) form {
	return dotsOf(parts, f)
}

func dotsOf(parts []form, end form) form {
	if len(parts) == 0 {
		return end
	}
	return formDots{parts: parts, end: end}
}

func (f formList) endOf(parts []form) form {
	return formList{parts: slices.Concat(parts, f.parts)}
}

func (f formDots) endOf(parts []form) form {
	return formDots{parts: slices.Concat(parts, f.parts), end: f.end}
}

func (f formId) eachId(visit func(formId)) {
	visit(f)
}

func (f formAtom) eachId(visit func(formId)) {
}

func (f formList) eachId(visit func(formId)) {
	for _, part := range f.parts {
		part.eachId(visit)
	}
}

func (f formDots) eachId(visit func(formId)) {
	for _, part := range f.parts {
		part.eachId(visit)
	}
	f.end.eachId(visit)
}

func (f formId) changed(change func(formId) formId) form {
	return change(f)
}

func (f formAtom) changed(change func(formId) formId) form {
	return f
}

func (f formList) changed(change func(formId) formId) form {
	return formList{parts: changedAll(f.parts, change)}
}

func (f formDots) changed(change func(formId) formId) form {
	return formDots{parts: changedAll(f.parts, change), end: f.end.changed(change)}
}

func changedAll(forms []form, change func(formId) formId) []form {
	var all []form
	for _, f := range forms {
		all = append(all, f.changed(change))
	}
	return all
}

// openForm is what was handed in as a form inside the program, and whether it is ok.
func openForm(f ExpForm) (form, bool) {
	var o formOpener
	return o.open(f, 0)
}

// formOpener counts the forms it has met, so that it also ends at a form whose Kids hold that form again.
type formOpener struct {
	met int
}

func (o *formOpener) open(f ExpForm, deep int) (form, bool) {
	o.met++
	if o.met > ExpMaxForms || deep > ExpMaxDeep {
		return nil, false
	}
	switch f.Sort {
	case ExpId:
		return openId(f)
	case ExpAtom:
		return openAtom(f)
	case ExpList:
		return o.openList(f, deep)
	case ExpDots:
		return o.openDots(f, deep)
	}
	return nil, false
}

// openId lets the set have the list that was handed in: a set is never written into, and plain tells a list of its own.
func openId(f ExpForm) (formId, bool) {
	if f.Sort != ExpId || !isIdText(f.Text) || !areScopes(f.Scopes) || f.From < 0 || len(f.Kids) > 0 {
		return formId{}, false
	}
	return formId{text: f.Text, scopes: sortedSet[int]{items: f.Scopes}, from: f.From}, true
}

func openAtom(f ExpForm) (form, bool) {
	if !isAtomText(f.Text) || len(f.Scopes) > 0 || f.From != 0 || len(f.Kids) > 0 {
		return nil, false
	}
	return formAtom{text: f.Text}, true
}

func (o *formOpener) openList(f ExpForm, deep int) (form, bool) {
	if !hasOnlyKids(f) {
		return nil, false
	}
	parts, ok := o.openAll(f.Kids, deep+1)
	return formList{parts: parts}, ok
}

func (o *formOpener) openDots(f ExpForm, deep int) (form, bool) {
	last := len(f.Kids) - 1
	if !hasOnlyKids(f) || last < 1 || f.Kids[last].Sort != ExpId && f.Kids[last].Sort != ExpAtom {
		return nil, false
	}
	parts, ok := o.openAll(f.Kids, deep+1)
	if !ok {
		return nil, false
	}
	return formDots{parts: parts[:last:last], end: parts[last]}, true
}

func hasOnlyKids(f ExpForm) bool {
	return f.Text == "" && len(f.Scopes) == 0 && f.From == 0
}

func (o *formOpener) openAll(kids []ExpForm, deep int) ([]form, bool) {
	var parts []form
	for _, kid := range kids {
		part, ok := o.open(kid, deep)
		if !ok {
			return nil, false
		}
		parts = append(parts, part)
	}
	return parts, true
}

func isAtomText(text string) bool {
	if len(text) > ExpMaxName {
		return false
	}
	return text == "#t" || text == "#f" || isDigits(strings.TrimPrefix(text, "-")) || isStringText(text)
}

func isIdText(text string) bool {
	return isWordText(text, ExpMaxName) && !strings.Contains(text, "~") && !isAtomText(text)
}

// isWordText says whether a text, read by itself, is one word that could name something, unless it is something by itself.
func isWordText(text string, longest int) bool {
	if text == "" || len(text) > longest || text == "." || text[0] == '#' {
		return false
	}
	return hasBytesFrom(33, text) && !strings.ContainsAny(text, "()\"'")
}

func isStringText(text string) bool {
	last := len(text) - 1
	if last < 1 || text[0] != '"' || text[last] != '"' {
		return false
	}
	return hasBytesFrom(32, text) && !strings.Contains(text[1:last], "\"")
}

func isDigits(text string) bool {
	for i := range len(text) {
		if text[i] < '0' || text[i] > '9' {
			return false
		}
	}
	return text != ""
}

// hasBytesFrom says whether all bytes of a text are in least..126.
func hasBytesFrom(least byte, text string) bool {
	for i := range len(text) {
		if text[i] < least || text[i] > 126 {
			return false
		}
	}
	return true
}

// pieces tells the pieces of a text in order: parentheses, quotes, strings and words.
func pieces(text string) iter.Seq[string] {
	return func(yield func(string) bool) {
		at := 0
		for at < len(text) {
			if text[at] == ' ' || text[at] == '\n' {
				at++
				continue
			}
			end := pieceEnd(text, at)
			if !yield(text[at:end]) {
				return
			}
			at = end
		}
	}
}

// pieceEnd is where the piece ends that begins at a place. A string that does not end goes up to the text's end, and so is no atom.
func pieceEnd(text string, at int) int {
	enders := " \n()\"'"
	past := 0
	switch text[at] {
	case '(', ')', '\'':
		return at + 1
	case '"':
		enders, past = "\"", 1
	}
	length := strings.IndexAny(text[at+1:], enders)
	if length < 0 {
		return len(text)
	}
	return at + 1 + length + past
}

// readFault is what a reader panics with at a text that is none.
type readFault struct{}

func demand(holds bool) {
	if !holds {
		panic(readFault{})
	}
}

// demanded is what is read, and whether all that was demanded meanwhile held.
func demanded[T any](read func() T) (answer T, ok bool) {
	defer func() {
		fault := recover()
		if fault == nil {
			return
		}
		if _, own := fault.(readFault); !own {
			panic(fault)
		}
	}()
	return read(), true
}

// pieceMaker makes what the pieces of a text are read as; what may not be it demands.
type pieceMaker[T any] interface {
	word(text string) T
	list(parts []T) T
	// dotted is the list of parts, maybe of none, behind which a word . and an end stood.
	dotted(parts []T, end T) T
}

// pieceReader has what was begun and not ended: first the text itself, then the lists, each within the one ahead of it.
type pieceReader[T any] struct {
	maker   pieceMaker[T]
	deepest int
	begun   []begunList[T]
}

// begunList has quoted, if a ' began it, dotted, if the word . has come, and ended, if its end has.
type begunList[T any] struct {
	parts  []T
	quoted bool
	dotted bool
	ended  bool
	end    T
}

// readPieces reads all of a text, of which nothing may be within more lists than deepest.
func readPieces[T any](text string, maker pieceMaker[T], deepest int) []T {
	r := pieceReader[T]{maker: maker, deepest: deepest, begun: make([]begunList[T], 1)}
	for piece := range pieces(text) {
		r.take(piece)
	}
	demand(len(r.begun) == 1)
	return r.begun[0].parts
}

func (r *pieceReader[T]) take(piece string) {
	switch piece {
	case "(":
		r.begin(begunList[T]{})
	case "'":
		r.begin(begunList[T]{quoted: true, parts: []T{r.maker.word("quote")}})
	case ")":
		r.endList()
	case ".":
		r.dot()
	default:
		r.demandRoom()
		r.put(r.maker.word(piece))
	}
}

func (r *pieceReader[T]) begin(list begunList[T]) {
	r.demandRoom()
	r.begun = append(r.begun, list)
}

// demandRoom counts lists as they are written: one that ends a list may come to be no list of its own, but counts.
func (r *pieceReader[T]) demandRoom() {
	demand(len(r.begun)-1 <= r.deepest)
}

func (r *pieceReader[T]) endList() {
	list := r.innermost()
	demand(len(r.begun) > 1 && !list.quoted && list.dotted == list.ended)
	r.end()
}

// end takes the innermost list, which has all its parts, into the one around it.
func (r *pieceReader[T]) end() {
	whole := r.whole(r.innermost())
	r.begun = r.begun[:len(r.begun)-1]
	r.put(whole)
}

func (r *pieceReader[T]) whole(list *begunList[T]) T {
	if list.dotted {
		return r.maker.dotted(list.parts, list.end)
	}
	return r.maker.list(list.parts)
}

func (r *pieceReader[T]) dot() {
	list := r.innermost()
	demand(len(r.begun) > 1 && !list.quoted && !list.dotted)
	list.dotted = true
}

// put puts what was read into the innermost list; one that a ' began is ended by it.
func (r *pieceReader[T]) put(read T) {
	list := r.innermost()
	if list.dotted {
		demand(!list.ended)
		list.end, list.ended = read, true
		return
	}
	list.parts = append(list.parts, read)
	if list.quoted {
		r.end()
	}
}

func (r *pieceReader[T]) innermost() *begunList[T] {
	return &r.begun[len(r.begun)-1]
}

// formMaker makes forms, and counts the identifiers.
type formMaker struct {
	froms int
}

func (m *formMaker) word(text string) form {
	if isAtomText(text) {
		return formAtom{text: text}
	}
	demand(isIdText(text))
	m.froms++
	return formId{text: text, from: m.froms}
}

func (m *formMaker) list(parts []form) form {
	return formList{parts: parts}
}

func (m *formMaker) dotted(parts []form, end form) form {
	demand(len(parts) > 0)
	return end.endOf(parts)
}

package tests

import (
	"fmt"
	"math/big"
	"reflect"
	"slices"
	"strings"
	"testing"

	"loop.example/siskin/impl"
)

func numberVal(text string) impl.Val { return impl.Val{Kind: impl.ValNumber, Text: text} }

func stringVal(text string) impl.Val { return impl.Val{Kind: impl.ValString, Text: text} }

func symbolVal(text string) impl.Val { return impl.Val{Kind: impl.ValSymbol, Text: text} }

func primVal(text string) impl.Val { return impl.Val{Kind: impl.ValPrim, Text: text} }

func pairVal(at int) impl.Val { return impl.Val{Kind: impl.ValPair, At: at} }

func closureVal(at int) impl.Val { return impl.Val{Kind: impl.ValClosure, At: at} }

func contVal(at int) impl.Val { return impl.Val{Kind: impl.ValCont, At: at} }

func paramVal(at int) impl.Val { return impl.Val{Kind: impl.ValParam, At: at} }

func errorVal(at int) impl.Val { return impl.Val{Kind: impl.ValError, At: at} }

func trueVal() impl.Val { return impl.Val{Kind: impl.ValBool, Text: "t"} }

func falseVal() impl.Val { return impl.Val{Kind: impl.ValBool, Text: "f"} }

func nilVal() impl.Val { return impl.Val{Kind: impl.ValNil} }

func noneVal() impl.Val { return impl.Val{Kind: impl.ValNone} }

func vals(all ...impl.Val) []impl.Val { return all }

// numberVals are numbers of texts.
func numberVals(texts ...string) []impl.Val {
	var all []impl.Val
	for _, text := range texts {
		all = append(all, numberVal(text))
	}
	return all
}

// fullState is a state that has something everywhere. Its pairs: (1 . two), (x 1 . two), one that goes around by its Cdr, one by its Car, ((5)).
func fullState() impl.CoreState {
	return impl.CoreState{
		Mode: 2, Node: 3, Env: 1, Vals: numberVals("7", "8"), Frame: 1, Wind: 1, Hand: 0, Bind: 1, Top: 4,
		Frames:   []impl.CoreFrame{{Kind: 3, Node: 2, Env: 1, At: 1, Vals: numberVals("1", "2"), Next: -1, Wind: 1, Hand: 1, Bind: 1, Deep: 1}, {Kind: 10, Vals: vals(pairVal(1)), Next: 0, Wind: -1, Hand: -1, Bind: -1, Deep: 2}, {Kind: 99}},
		Envs:     []impl.CoreEnv{{Name: "x", Cell: 0, Next: -1}, {Name: "y", Cell: 1, Next: 0}},
		Cells:    vals(numberVal("5"), impl.Val{}),
		Globals:  []impl.CoreEnv{{Name: "all", Cell: 1, Next: -1}, {Name: "some", Cell: 77, Next: 5}},
		Pairs:    []impl.CorePair{{Car: numberVal("1"), Cdr: symbolVal("two")}, {Car: symbolVal("x"), Cdr: pairVal(0)}, {Car: numberVal("3"), Cdr: pairVal(2)}, {Car: pairVal(3), Cdr: nilVal()}, {Car: pairVal(5), Cdr: nilVal()}, {Car: numberVal("5"), Cdr: nilVal()}},
		Closures: []impl.CoreClosure{{Node: 4, Env: -1}, {Node: 5, Env: 1}},
		Winds:    []impl.CoreWind{{Before: closureVal(0), After: closureVal(1), Next: -1}, {Before: closureVal(1), After: closureVal(0), Next: 0}},
		Hands:    []impl.CoreHand{{Proc: closureVal(1), Next: -1}, {Proc: primVal("car"), Next: 0}},
		Binds:    []impl.CoreBind{{Param: 0, Value: numberVal("6"), Next: -1}, {Param: 1, Value: numberVal("9"), Next: 0}},
		Conts:    []impl.CoreCont{{Frame: 0, Wind: 1, Hand: 0, Bind: -1}, {Frame: -1, Wind: -1, Hand: -1, Bind: -1}},
		Errors:   []impl.CoreErr{{Text: "bad", List: pairVal(1)}, {Text: "", List: nilVal()}},
		Params:   vals(numberVal("4"), stringVal("out")),
		Out:      "shown", Steps: 12, Deepest: 3, Stop: 0, Fault: "none",
	}
}

// eachKind is a value of each kind, of fullState.
func eachKind() []impl.Val {
	return vals(numberVal("-3/4"), trueVal(), stringVal("says"), symbolVal("name"), nilVal(), pairVal(1), closureVal(1), primVal("car"), contVal(1), noneVal(), paramVal(1), errorVal(0))
}

// cut is what something is, told in not too many words.
func cut(of any) string {
	text := fmt.Sprintf("%v", of)
	return text[:min(len(text), 600)]
}

// same says whether two values are, lists that are nil and that are empty being the same.
func same(a, b any) bool {
	return sameWithin(reflect.ValueOf(a), reflect.ValueOf(b))
}

func sameWithin(a, b reflect.Value) bool {
	switch a.Kind() {
	case reflect.Slice:
		if a.Len() != b.Len() {
			return false
		}
		for i := range a.Len() {
			if !sameWithin(a.Index(i), b.Index(i)) {
				return false
			}
		}
		return true
	case reflect.Struct:
		for i := range a.NumField() {
			if !sameWithin(a.Field(i), b.Field(i)) {
				return false
			}
		}
		return true
	}
	return a.Interface() == b.Interface()
}

// roomyCopy is a copy whose lists all have room behind their ends, filled with what spareOf tells.
func roomyCopy[T any](of T) T {
	return roomyWithin(reflect.ValueOf(of)).Interface().(T)
}

func roomyWithin(v reflect.Value) reflect.Value {
	made := reflect.New(v.Type()).Elem()
	switch v.Kind() {
	case reflect.Slice:
		made = reflect.MakeSlice(v.Type(), v.Len()+2, v.Len()+2)
		for i := range v.Len() {
			made.Index(i).Set(roomyWithin(v.Index(i)))
		}
		for i := v.Len(); i < made.Len(); i++ {
			made.Index(i).Set(spareOf(v.Type().Elem()))
		}
		return made.Slice(0, v.Len())
	case reflect.Struct:
		for i := range v.NumField() {
			made.Field(i).Set(roomyWithin(v.Field(i)))
		}
		return made
	}
	made.Set(v)
	return made
}

// spareOf has spare as each of its numbers and texts.
func spareOf(of reflect.Type) reflect.Value {
	v := reflect.New(of).Elem()
	switch of.Kind() {
	case reflect.Struct:
		for i := range of.NumField() {
			v.Field(i).Set(spareOf(of.Field(i).Type))
		}
	case reflect.Int:
		v.SetInt(spare)
	case reflect.String:
		v.SetString("spare")
	}
	return v
}

// staysRoomyCopy says whether what roomyCopy made of something is still that, its room included.
func staysRoomyCopy[T any](room, of T) bool {
	return same(room, of) && hasSpareRoom(reflect.ValueOf(room))
}

func hasSpareRoom(v reflect.Value) bool {
	switch v.Kind() {
	case reflect.Slice:
		all := v.Slice(0, v.Cap())
		for i := v.Len(); i < v.Cap(); i++ {
			if !sameWithin(all.Index(i), spareOf(v.Type().Elem())) {
				return false
			}
		}
		for i := range v.Len() {
			if !hasSpareRoom(v.Index(i)) {
				return false
			}
		}
	case reflect.Struct:
		for i := range v.NumField() {
			if !hasSpareRoom(v.Field(i)) {
				return false
			}
		}
	}
	return true
}

// blocksOfAll are the blocks of all lists within something.
func blocksOfAll(of any) []block {
	return blocksOfValue(reflect.ValueOf(of))
}

func blocksOfValue(v reflect.Value) []block {
	var all []block
	switch v.Kind() {
	case reflect.Slice:
		all = blockOf(v.Interface())
		for i := range v.Len() {
			all = append(all, blocksOfValue(v.Index(i))...)
		}
	case reflect.Struct:
		for i := range v.NumField() {
			all = append(all, blocksOfValue(v.Field(i))...)
		}
	}
	return all
}

// wantOf is the document's words of a value that is one of a state.
func wantOf(s impl.CoreState, all ...impl.Val) bool {
	places := map[int]int{impl.ValPair: len(s.Pairs), impl.ValClosure: len(s.Closures), impl.ValCont: len(s.Conts), impl.ValParam: len(s.Params), impl.ValError: len(s.Errors)}
	for _, v := range all {
		most, hasPlace := places[v.Kind]
		if v.Kind < 1 || v.Kind > 12 || hasPlace && (v.At < 0 || v.At >= most) {
			return false
		}
	}
	return true
}

func wantOfPairs(s impl.CoreState) bool {
	return !slices.ContainsFunc(s.Pairs, func(p impl.CorePair) bool { return !wantOf(s, p.Car, p.Cdr) })
}

// restOf is what of a pair is still to be shown.
type restOf impl.Val

// wantShow is the document's words of CoreShow: what is to be shown stands on a stack.
func wantShow(s impl.CoreState, v impl.Val) (string, bool) {
	if !wantOf(s, v) || !wantOfPairs(s) {
		return "", false
	}
	var out strings.Builder
	todo := []any{v}
	for pieces := 0; len(todo) > 0; {
		next := todo[len(todo)-1]
		todo = todo[:len(todo)-1]
		switch x := next.(type) {
		case string:
			pieces++
			out.WriteString(x)
		case impl.Val:
			todo = append(todo, partsShown(s, x)...)
		case restOf:
			todo = append(todo, restShown(s, impl.Val(x))...)
		}
		if pieces > impl.CoreMaxOut || out.Len() > impl.CoreMaxOut {
			return "", false
		}
	}
	return out.String(), true
}

// partsShown is what is to be shown of a value, the first last.
func partsShown(s impl.CoreState, v impl.Val) []any {
	switch v.Kind {
	case impl.ValBool:
		return []any{"#" + v.Text}
	case impl.ValNil:
		return []any{"()"}
	case impl.ValPair:
		return []any{restOf(s.Pairs[v.At].Cdr), s.Pairs[v.At].Car, "("}
	case impl.ValClosure, impl.ValPrim, impl.ValCont, impl.ValParam:
		return []any{"#<procedure>"}
	case impl.ValNone:
		return []any{"#<none>"}
	case impl.ValError:
		return []any{"#<error " + s.Errors[v.At].Text + ">"}
	}
	return []any{v.Text}
}

func restShown(s impl.CoreState, cdr impl.Val) []any {
	if cdr.Kind == impl.ValNil {
		return []any{")"}
	}
	if cdr.Kind == impl.ValPair {
		return []any{restOf(s.Pairs[cdr.At].Cdr), s.Pairs[cdr.At].Car, " "}
	}
	return []any{")", cdr, " . "}
}

func demandShow(t *testing.T, s impl.CoreState, v impl.Val, want string, wantOk bool) {
	t.Helper()
	text, ok := impl.CoreShow(s, v)
	if text != want || ok != wantOk {
		t.Errorf("%v is shown as %.80q %v, want %.80q %v", v, text, ok, want, wantOk)
	}
	if text, ok = wantShow(s, v); text != want || ok != wantOk {
		t.Errorf("%v: by the document's words it is %.80q %v, want %.80q %v", v, text, ok, want, wantOk)
	}
}

// plainTakes is how many values each plain one takes, least and most.
var plainTakes = map[string][2]int{
	"+": {0, 99}, "*": {0, 99}, "-": {1, 99}, "/": {1, 99}, "quotient": {2, 2}, "modulo": {2, 2}, "=": {1, 99}, "<": {1, 99},
	"cons": {2, 2}, "list": {0, 99}, "car": {1, 1}, "cdr": {1, 1}, "set-car!": {2, 2}, "set-cdr!": {2, 2}, "eq?": {2, 2}, "equal?": {2, 2},
	"null?": {1, 1}, "pair?": {1, 1}, "number?": {1, 1}, "symbol?": {1, 1}, "error?": {1, 1}, "procedure?": {1, 1}, "not": {1, 1},
	"display": {1, 1}, "newline": {0, 0}, "make-parameter": {1, 1}, "error-text": {1, 1}, "error-list": {1, 1},
}

// callingTakes is how many values each one that calls others takes.
var callingTakes = map[string][2]int{
	"apply": {2, 2}, "call-with-values": {2, 2}, "call/cc": {1, 1}, "dynamic-wind": {3, 3}, "error": {1, 99}, "raise": {1, 1}, "raise-continuable": {1, 1},
	"values": {0, 99}, "with-exception-handler": {2, 2}, "with-parameter": {3, 3},
}

func plainNames() []string {
	var all []string
	for name := range plainTakes {
		all = append(all, name)
	}
	slices.Sort(all)
	return all
}

// wantPlain is the document's words of CorePlain.
func wantPlain(s impl.CoreState, name string, given []impl.Val) (impl.CoreState, impl.Val, int) {
	takes, has := plainTakes[name]
	if !has || !wantOf(s, given...) || !wantOfPairs(s) {
		return s, impl.Val{}, 1
	}
	if len(given) < takes[0] || len(given) > takes[1] {
		return s, impl.Val{}, 3
	}
	if slices.Contains([]string{"+", "*", "-", "/", "quotient", "modulo", "=", "<"}, name) {
		v, code := wantReckoned(name, given)
		return s, v, code
	}
	if must, has := map[string]int{"car": impl.ValPair, "cdr": impl.ValPair, "set-car!": impl.ValPair, "set-cdr!": impl.ValPair, "error-text": impl.ValError, "error-list": impl.ValError}[name]; has && given[0].Kind != must {
		return s, impl.Val{}, 2
	}
	s, v := wantMade(s, name, given)
	return s, v, 0
}

func wantBool(holds bool) impl.Val {
	if holds {
		return trueVal()
	}
	return falseVal()
}

// wantReckoned reckons on big.Rat.
func wantReckoned(name string, given []impl.Val) (impl.Val, int) {
	var rats []*big.Rat
	for _, v := range given {
		n, ok := impl.NumParse(v.Text, 10)
		if v.Kind != impl.ValNumber || !ok {
			return impl.Val{}, 2
		}
		rats = append(rats, ratOf(n))
	}
	if name == "=" || name == "<" {
		for i := 1; i < len(rats); i++ {
			if order := rats[i-1].Cmp(rats[i]); order > 0 || (order == 0) != (name == "=") {
				return falseVal(), 0
			}
		}
		return trueVal(), 0
	}
	switch {
	case name == "+" || name == "-" && len(rats) == 1:
		rats = append([]*big.Rat{big.NewRat(0, 1)}, rats...)
	case name == "*" || name == "/" && len(rats) == 1:
		rats = append([]*big.Rat{big.NewRat(1, 1)}, rats...)
	}
	sum := rats[0]
	for _, r := range rats[1:] {
		var code int
		if sum, code = wantOfTwo(name, sum, r); code != 0 {
			return impl.Val{}, code
		}
	}
	return numberVal(sum.RatString()), 0
}

func wantOfTwo(name string, a, b *big.Rat) (*big.Rat, int) {
	r, left := new(big.Rat), new(big.Int)
	switch name {
	case "+":
		r.Add(a, b)
	case "-":
		r.Sub(a, b)
	case "*":
		r.Mul(a, b)
	case "/":
		if b.Sign() == 0 {
			return nil, 2
		}
		r.Quo(a, b)
	default:
		if !a.IsInt() || !b.IsInt() || b.Sign() == 0 {
			return nil, 2
		}
		quo, _ := new(big.Int).QuoRem(a.Num(), b.Num(), left)
		if name == "modulo" {
			if quo = left; left.Sign()*b.Sign() < 0 {
				quo = left.Add(left, b.Num())
			}
		}
		r.SetInt(quo)
	}
	if _, ok := numOf(false, new(big.Int).Abs(r.Num()), r.Denom()); !ok {
		return nil, 4
	}
	return r, 0
}

// wantMade is what else a state and values come to, if nothing is wrong with them.
func wantMade(s impl.CoreState, name string, given []impl.Val) (impl.CoreState, impl.Val) {
	s.Pairs = slices.Clone(s.Pairs)
	switch name {
	case "cons":
		s.Pairs = append(s.Pairs, impl.CorePair{Car: given[0], Cdr: given[1]})
		return s, pairVal(len(s.Pairs) - 1)
	case "list":
		made := nilVal()
		for i := len(given) - 1; i >= 0; i-- {
			s.Pairs = append(s.Pairs, impl.CorePair{Car: given[i], Cdr: made})
			made = pairVal(len(s.Pairs) - 1)
		}
		return s, made
	case "car":
		return s, s.Pairs[given[0].At].Car
	case "cdr":
		return s, s.Pairs[given[0].At].Cdr
	case "set-car!":
		s.Pairs[given[0].At].Car = given[1]
		return s, noneVal()
	case "set-cdr!":
		s.Pairs[given[0].At].Cdr = given[1]
		return s, noneVal()
	case "equal?":
		holds, compared := wantEqual(s, given[0], given[1])
		if compared == impl.CoreMaxOut {
			s.Stop = impl.StopOut
		}
		return s, wantBool(holds)
	case "display":
		text, ok := wantShow(s, given[0])
		return wantWritten(s, text, ok), noneVal()
	case "newline":
		return wantWritten(s, "\n", true), noneVal()
	case "make-parameter":
		s.Params = append(slices.Clone(s.Params), given[0])
		return s, paramVal(len(s.Params) - 1)
	case "error-text":
		return s, stringVal(s.Errors[given[0].At].Text)
	case "error-list":
		return s, s.Errors[given[0].At].List
	}
	return s, wantBool(wantAsked(name, given))
}

func wantAsked(name string, given []impl.Val) bool {
	kind := given[0].Kind
	switch name {
	case "eq?":
		return given[0] == given[1]
	case "null?":
		return kind == impl.ValNil
	case "pair?":
		return kind == impl.ValPair
	case "number?":
		return kind == impl.ValNumber
	case "symbol?":
		return kind == impl.ValSymbol
	case "error?":
		return kind == impl.ValError
	case "procedure?":
		return kind == impl.ValClosure || kind == impl.ValPrim || kind == impl.ValCont || kind == impl.ValParam
	case "not":
		return kind == impl.ValBool && given[0].Text == "f" && given[0].At == 0
	}
	panic(name)
}

func wantWritten(s impl.CoreState, text string, ok bool) impl.CoreState {
	if !ok || len(s.Out)+len(text) > impl.CoreMaxOut {
		s.Stop = impl.StopOut
		return s
	}
	s.Out += text
	return s
}

// wantEqual compares what stands on a stack, and counts.
func wantEqual(s impl.CoreState, a, b impl.Val) (bool, int) {
	todo := [][2]impl.Val{{a, b}}
	for compared := 1; ; compared++ {
		one, other := todo[len(todo)-1][0], todo[len(todo)-1][1]
		todo = todo[:len(todo)-1]
		if one.Kind == impl.ValPair && other.Kind == impl.ValPair {
			p, q := s.Pairs[one.At], s.Pairs[other.At]
			todo = append(todo, [2]impl.Val{p.Cdr, q.Cdr}, [2]impl.Val{p.Car, q.Car})
		} else if one != other {
			return false, compared
		}
		if len(todo) == 0 {
			return true, compared
		}
		if compared == impl.CoreMaxOut {
			return false, compared
		}
	}
}

// demandPlain holds CorePlain, in memory with room, against the document's words, and tells what it answers.
func demandPlain(t *testing.T, s impl.CoreState, name string, given []impl.Val) (impl.CoreState, impl.Val, int) {
	t.Helper()
	room, roomVals := roomyCopy(s), roomyCopy(given)
	after, v, code := impl.CorePlain(room, name, roomVals)
	want, wantV, wantCode := wantPlain(s, name, given)
	if !same(after, want) || v != wantV || code != wantCode {
		t.Errorf("%s of %s: %s, code %d, want %s, code %d; the state %s, want %s", name, cut(given), cut(v), code, cut(wantV), wantCode, cut(after), cut(want))
	}
	if !staysRoomyCopy(room, s) || !staysRoomyCopy(roomVals, given) {
		t.Errorf("%s of %s changes what was handed in", name, cut(given))
	}
	demandOwnBlocks(t, name, blocksOfAll(after), append(blocksOfAll(room), blocksOfAll(roomVals)...))
	demandUntouched(t, name, s, after, code)
	return after, v, code
}

// demandUntouched is promise 25: nothing but Pairs, Params, Out and Stop is changed, and with a code nothing.
func demandUntouched(t *testing.T, name string, s, after impl.CoreState, code int) {
	t.Helper()
	if code == 0 {
		after.Pairs, after.Params, after.Out, after.Stop = s.Pairs, s.Params, s.Out, s.Stop
	}
	if !same(after, s) {
		t.Errorf("%s with code %d changes the state: %s, it was %s", name, code, cut(after), cut(s))
	}
}

// demandVal demands what a plain one makes of values of a state, without a code.
func demandVal(t *testing.T, s impl.CoreState, name string, given []impl.Val, want impl.Val) impl.CoreState {
	t.Helper()
	after, v, code := demandPlain(t, s, name, given)
	if v != want || code != 0 {
		t.Errorf("%s of %s: %s, code %d, want %s", name, cut(given), cut(v), code, cut(want))
	}
	return after
}

// demandCode demands a code.
func demandCode(t *testing.T, s impl.CoreState, name string, given []impl.Val, want int) {
	t.Helper()
	after, v, code := demandPlain(t, s, name, given)
	if v != (impl.Val{}) || code != want || !same(after, s) {
		t.Errorf("%s of %s: %s, code %d, want code %d", name, cut(given), cut(v), code, want)
	}
}

// valMaker makes values, most of them of a state, and states.
type valMaker struct {
	formMaker
}

func (m *valMaker) val(s impl.CoreState) impl.Val {
	texts := []string{"", "t", "f", "x", "0", "1", "-2", "7/3", "007", "1.5", "5/0", "4/6", "\x00\xff", "car", nines(60), "-" + nines(60), "1/" + nines(60), nines(61)}
	v := impl.Val{Kind: 1 + m.below(12), Text: texts[m.below(len(texts))]}
	if m.below(60) == 0 {
		v.Kind = m.below(20) - 4
	}
	most := 1 + m.below(3)
	if v.Kind == impl.ValPair {
		most = len(s.Pairs)
	}
	v.At = m.below(max(most, 1))
	if m.below(80) == 0 {
		v.At = m.below(12) - 3
	}
	return v
}

func (m *valMaker) state() impl.CoreState {
	s := fullState()
	s.Pairs = make([]impl.CorePair, m.below(8))
	for i := range s.Pairs {
		s.Pairs[i] = impl.CorePair{Car: m.val(s), Cdr: m.val(s)}
	}
	s.Errors = append(s.Errors, impl.CoreErr{Text: "third", List: m.val(s)})
	s.Closures, s.Conts, s.Params = append(s.Closures, impl.CoreClosure{}), append(s.Conts, impl.CoreCont{}), append(s.Params, m.val(s))
	s.Out = strings.Repeat("o", m.below(3)*(impl.CoreMaxOut-10)/2+m.below(12))
	s.Stop = m.below(3)
	return s
}

// given are values for a name, as many as it takes, or nearly; numbers, where it takes these, or nearly all.
func (m *valMaker) given(s impl.CoreState, name string) []impl.Val {
	takes := plainTakes[name]
	many := takes[0] + m.below(min(takes[1], takes[0]+4)-takes[0]+1)
	if m.below(10) == 0 {
		many = max(0, many+m.below(3)-1)
	}
	var all []impl.Val
	for range many {
		v := m.val(s)
		if strings.Contains("+*-/=<quotientmodulo", name) && m.below(12) > 0 {
			v.Kind = impl.ValNumber
		} else if m.below(3) > 0 && (name == "car" || name == "cdr" || strings.HasPrefix(name, "set-")) {
			v.Kind, v.At = impl.ValPair, m.below(max(1, len(s.Pairs)))
		} else if m.below(3) > 0 && strings.HasPrefix(name, "error-") {
			v.Kind = impl.ValError
		}
		all = append(all, v)
	}
	return all
}

package tests

import (
	"math"
	"strings"
	"testing"

	"loop.example/siskin/impl"
)

func TestEachKindIsShown(t *testing.T) {
	s := fullState()
	want := []string{"-3/4", "#t", "says", "name", "()", "(x 1 . two)", "#<procedure>", "#<procedure>", "#<procedure>", "#<none>", "#<procedure>", "#<error bad>"}
	for i, v := range eachKind() {
		demandShow(t, s, v, want[i], true)
	}
	demandShow(t, s, errorVal(1), "#<error >", true)
	demandShow(t, s, impl.Val{Kind: impl.ValError, Text: "of the value, not of the error"}, "#<error bad>", true)
	for _, kind := range []int{impl.ValNil, impl.ValClosure, impl.ValPrim, impl.ValCont, impl.ValNone, impl.ValParam} {
		plain, _ := impl.CoreShow(s, impl.Val{Kind: kind})
		demandShow(t, s, impl.Val{Kind: kind, Text: "not shown"}, plain, true)
	}
}

func TestTextsAreShownAsTheyAre(t *testing.T) {
	for _, text := range []string{"", "t", "f", "007", "no number", "(", ")", " . ", "\"", "a b\nc", "\x00\x01\xff\xfe", "\u00e4\u20ac", "\xe2\x82"} {
		for _, kind := range []int{impl.ValNumber, impl.ValString, impl.ValSymbol} {
			demandShow(t, impl.CoreState{}, impl.Val{Kind: kind, Text: text}, text, true)
		}
		demandShow(t, impl.CoreState{}, impl.Val{Kind: impl.ValBool, Text: text}, "#"+text, true)
		demandShow(t, impl.CoreState{Errors: []impl.CoreErr{{Text: text}}}, errorVal(0), "#<error "+text+">", true)
	}
}

// pairsOf are pairs of Cars and Cdrs.
func pairsOf(parts ...impl.Val) impl.CoreState {
	var s impl.CoreState
	for i := 0; i < len(parts); i += 2 {
		s.Pairs = append(s.Pairs, impl.CorePair{Car: parts[i], Cdr: parts[i+1]})
	}
	return s
}

func TestPairsAreShown(t *testing.T) {
	one, two, a := numberVal("1"), numberVal("2"), symbolVal("a")
	for want, s := range map[string]impl.CoreState{
		"(1)":                   pairsOf(one, nilVal()),
		"(1 2)":                 pairsOf(one, pairVal(1), two, nilVal()),
		"(1 . 2)":               pairsOf(one, two),
		"(1 2 . a)":             pairsOf(one, pairVal(1), two, a),
		"(())":                  pairsOf(nilVal(), nilVal()),
		"((1))":                 pairsOf(pairVal(1), nilVal(), one, nilVal()),
		"((1 . 2) . a)":         pairsOf(pairVal(1), a, one, two),
		"((1 2) 1 2)":           pairsOf(pairVal(1), pairVal(1), one, pairVal(2), two, nilVal()),
		"(((a)) (a) a)":         pairsOf(pairVal(1), pairVal(3), pairVal(2), nilVal(), a, nilVal(), pairVal(2), pairVal(2)),
		"(() () . #<none>)":     pairsOf(nilVal(), pairVal(1), nilVal(), noneVal()),
		"(#t . #f)":             pairsOf(trueVal(), falseVal()),
		"(says . #<procedure>)": pairsOf(stringVal("says"), primVal("car")),
		"( )":                   pairsOf(stringVal(""), pairVal(1), stringVal(""), nilVal()),
		"( . )":                 pairsOf(stringVal(""), stringVal("")),
	} {
		demandShow(t, s, pairVal(0), want, true)
		demandShow(t, s, impl.Val{Kind: impl.ValPair, Text: "not shown"}, want, true)
	}
}

func TestPairsThatGoAroundAreTooMuch(t *testing.T) {
	for what, s := range map[string]impl.CoreState{
		"by its Cdr":                 pairsOf(numberVal("1"), pairVal(0)),
		"by its Cdr, of empty texts": pairsOf(stringVal(""), pairVal(0)),
		"by its Car":                 pairsOf(pairVal(0), nilVal()),
		"by both":                    pairsOf(pairVal(0), pairVal(0)),
		"by the Cdr of another one":  pairsOf(numberVal("1"), pairVal(1), numberVal("2"), pairVal(0)),
		"by the Car of another one":  pairsOf(numberVal("1"), pairVal(1), pairVal(0), nilVal()),
		"within":                     pairsOf(pairVal(1), nilVal(), stringVal(""), pairVal(1)),
	} {
		if text, ok := impl.CoreShow(s, pairVal(0)); text != "" || ok {
			t.Errorf("%s: %.80q %v", what, text, ok)
		}
		demandShow(t, s, pairVal(0), "", false)
		demandShow(t, s, numberVal("1"), "1", true)
	}
}

func TestKindsThatAreNone(t *testing.T) {
	for _, kind := range []int{0, -1, 13, 14, 99, math.MinInt, math.MaxInt, 1 << 32, 1<<32 + 1} {
		demandShow(t, fullState(), impl.Val{Kind: kind, Text: "x"}, "", false)
		demandShow(t, impl.CoreState{}, impl.Val{Kind: kind}, "", false)
	}
}

// withPlaces are the kinds whose At is a place, and how many of it placedState has.
var withPlaces = map[int]int{impl.ValPair: 1, impl.ValClosure: 2, impl.ValCont: 3, impl.ValParam: 4, impl.ValError: 5}

func placedState() impl.CoreState {
	pairs := []impl.CorePair{{Car: numberVal("1"), Cdr: nilVal()}}
	return impl.CoreState{Pairs: pairs, Closures: make([]impl.CoreClosure, 2), Conts: make([]impl.CoreCont, 3), Params: make([]impl.Val, 4), Errors: make([]impl.CoreErr, 5)}
}

func TestPlacesOfValues(t *testing.T) {
	s := placedState()
	for kind := impl.ValNumber; kind <= impl.ValError; kind++ {
		most, hasPlace := withPlaces[kind]
		if !hasPlace {
			for _, at := range []int{-1, 0, 1, 99, math.MinInt, math.MaxInt} {
				plain, _ := impl.CoreShow(s, impl.Val{Kind: kind, Text: "t"})
				demandShow(t, s, impl.Val{Kind: kind, Text: "t", At: at}, plain, true)
			}
			continue
		}
		for _, at := range []int{-1, most, most + 1, math.MinInt, math.MaxInt} {
			demandShow(t, s, impl.Val{Kind: kind, At: at}, "", false)
			demandCode(t, s, "list", vals(impl.Val{Kind: kind, At: at}), 1)
		}
		for _, at := range []int{0, most - 1} {
			if text, ok := impl.CoreShow(s, impl.Val{Kind: kind, At: at}); !ok || text == "" {
				t.Errorf("kind %d at %d: %q %v", kind, at, text, ok)
			}
		}
		demandShow(t, impl.CoreState{}, impl.Val{Kind: kind}, "", false)
	}
}

func TestPairsOfWhatIsNoneOfTheState(t *testing.T) {
	for _, bad := range vals(impl.Val{}, impl.Val{Kind: 13}, pairVal(-1), pairVal(3), closureVal(0), contVal(0), paramVal(0), errorVal(0)) {
		for at := range 3 {
			for part := range 2 {
				s := pairsOf(numberVal("1"), nilVal(), numberVal("2"), nilVal(), numberVal("3"), nilVal())
				demandShow(t, s, pairVal(0), "(1)", true)
				if part == 0 {
					s.Pairs[at].Car = bad
				} else {
					s.Pairs[at].Cdr = bad
				}
				demandShow(t, s, pairVal(0), "", false)
				demandShow(t, s, numberVal("1"), "", false)
			}
		}
	}
	s := fullState()
	s.Cells, s.Params, s.Errors[0].List, s.Vals = vals(impl.Val{Kind: 77}), vals(impl.Val{}), impl.Val{Kind: -5}, vals(impl.Val{})
	demandShow(t, s, pairVal(0), "(1 . two)", true)
	demandShow(t, s, errorVal(0), "#<error bad>", true)
	demandShow(t, s, paramVal(0), "#<procedure>", true)
}

func TestBytesThatAreShown(t *testing.T) {
	full := strings.Repeat("x", impl.CoreMaxOut)
	for _, kind := range []int{impl.ValNumber, impl.ValString, impl.ValSymbol} {
		demandShow(t, impl.CoreState{}, impl.Val{Kind: kind, Text: full}, full, true)
		demandShow(t, impl.CoreState{}, impl.Val{Kind: kind, Text: full + "x"}, "", false)
		demandShow(t, impl.CoreState{}, impl.Val{Kind: kind, Text: strings.Repeat(full, 300)}, "", false)
	}
	demandShow(t, impl.CoreState{}, impl.Val{Kind: impl.ValBool, Text: full[1:]}, "#"+full[1:], true)
	demandShow(t, impl.CoreState{}, impl.Val{Kind: impl.ValBool, Text: full}, "", false)
	bare := len("#<error >")
	demandShow(t, impl.CoreState{Errors: []impl.CoreErr{{Text: full[bare:]}}}, errorVal(0), "#<error "+full[bare:]+">", true)
	demandShow(t, impl.CoreState{Errors: []impl.CoreErr{{Text: full[bare-1:]}}}, errorVal(0), "", false)
	for _, text := range []string{full[6:], full[5:], full[4:]} {
		long := stringVal(text)
		demandIf(t, pairsOf(stringVal("a"), long), "(a . "+text+")", len(text)+6)
		demandIf(t, pairsOf(long, stringVal("a")), "("+text+" . a)", len(text)+6)
		demandIf(t, pairsOf(stringVal("abc"), pairVal(1), long, nilVal()), "(abc "+text+")", len(text)+6)
		demandIf(t, pairsOf(stringVal("ab"), pairVal(1), long, nilVal()), "(ab "+text+")", len(text)+5)
		demandIf(t, pairsOf(pairVal(1), nilVal(), long, nilVal()), "(("+text+"))", len(text)+4)
	}
}

// demandIf demands that the pair 0 is shown as a text of so many bytes, if that is not too much.
func demandIf(t *testing.T, s impl.CoreState, text string, bytes int) {
	t.Helper()
	if len(text) != bytes {
		t.Errorf("%d bytes, want %d", len(text), bytes)
	}
	if bytes > impl.CoreMaxOut {
		text = ""
	}
	demandShow(t, s, pairVal(0), text, bytes <= impl.CoreMaxOut)
}

// listState has a list of so many values at the pair 0.
func listState(many int, v, end impl.Val) impl.CoreState {
	var s impl.CoreState
	for i := range many {
		s.Pairs = append(s.Pairs, impl.CorePair{Car: v, Cdr: pairVal(i + 1)})
	}
	s.Pairs[many-1].Cdr = end
	return s
}

// A list of n values is 2n + 1 pieces; one that ends in something, and one more list around, each are 2 more. So a value is never of an even number of pieces: the most that there can be is one less than CoreMaxOut.
func TestPiecesThatAreShown(t *testing.T) {
	empty, most := stringVal(""), impl.CoreMaxOut/2-1
	spaces := func(many int) string { return strings.Repeat(" ", many) }
	demandShow(t, listState(most, empty, nilVal()), pairVal(0), "("+spaces(most-1)+")", true)
	demandShow(t, listState(most+1, empty, nilVal()), pairVal(0), "", false)
	demandShow(t, listState(most-1, empty, empty), pairVal(0), "("+spaces(most-2)+" . )", true)
	demandShow(t, listState(most, empty, empty), pairVal(0), "", false)
	deep := func(many int) impl.CoreState {
		s := listState(many, empty, nilVal())
		s.Pairs = append(s.Pairs, impl.CorePair{Car: pairVal(0), Cdr: nilVal()})
		return s
	}
	demandShow(t, deep(most-1), pairVal(most-1), "(("+spaces(most-2)+"))", true)
	demandShow(t, deep(most), pairVal(most), "", false)
}

func TestValuesInLists(t *testing.T) {
	s := fullState()
	for i, v := range eachKind() {
		text, _ := impl.CoreShow(s, v)
		withIt := fullState()
		withIt.Pairs = append(withIt.Pairs, impl.CorePair{Car: v, Cdr: numberVal("9")}, impl.CorePair{Car: numberVal("9"), Cdr: v})
		demandShow(t, withIt, pairVal(6), "("+text+" . 9)", true)
		want := "(9 . " + text + ")"
		if v.Kind == impl.ValNil {
			want = "(9)"
		} else if v.Kind == impl.ValPair {
			want = "(9 " + text[1:]
		}
		demandShow(t, withIt, pairVal(7), want, true)
		if i != v.Kind-1 {
			t.Errorf("%v is of another kind", v)
		}
	}
}

func TestShowOfMadeStates(t *testing.T) {
	m := valMaker{formMaker{state: 23}}
	shown := 0
	for range 6000 {
		s := m.state()
		v := m.val(s)
		room := roomyCopy(s)
		text, ok := impl.CoreShow(room, v)
		again, _ := impl.CoreShow(room, v)
		want, wantOk := wantShow(s, v)
		if text != want || ok != wantOk || again != text {
			t.Fatalf("%v of %v is shown as %.80q %v, want %.80q %v", v, s.Pairs, text, ok, want, wantOk)
		}
		if !staysRoomyCopy(room, s) {
			t.Fatalf("%v is changed", s)
		}
		if ok {
			shown++
		}
	}
	if shown < 3000 || shown > 5900 {
		t.Errorf("%d are shown", shown)
	}
}

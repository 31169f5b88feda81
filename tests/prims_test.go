package tests

import (
	"math"
	"slices"
	"strings"
	"testing"

	"loop.example/siskin/impl"
)

func TestNamesOfPrims(t *testing.T) {
	want := []string{"*", "+", "-", "/", "<", "=", "apply", "call-with-values", "call/cc", "car", "cdr", "cons", "display", "dynamic-wind", "eq?", "equal?", "error", "error-list", "error-text", "error?", "list", "make-parameter", "modulo", "newline", "not", "null?", "number?", "pair?", "procedure?", "quotient", "raise", "raise-continuable", "set-car!", "set-cdr!", "symbol?", "values", "with-exception-handler", "with-parameter"}
	names := impl.CorePrims()
	if !slices.Equal(names, want) || len(want) != len(plainTakes)+len(callingTakes) {
		t.Errorf("%q", names)
	}
	demandOwnBlocks(t, "CorePrims", blockOf(names), blockOf(impl.CorePrims()))
	clear(names)
	if !slices.Equal(impl.CorePrims(), want) {
		t.Errorf("what was written into one list is in another one")
	}
}

func TestNamesThatAreNotPlain(t *testing.T) {
	for name := range callingTakes {
		for many := range 5 {
			demandCode(t, fullState(), name, eachKind()[:many], 1)
		}
	}
	for _, name := range []string{"", " ", "Car", "car ", " car", "ca", "carr", "cadr", "if", "define", "lambda", "quote", "nul?", "null", "#t", "x", "\x00", "+ ", "++", strings.Repeat("car", 5000)} {
		demandCode(t, fullState(), name, nil, 1)
		demandCode(t, fullState(), name, vals(pairVal(0)), 1)
		demandCode(t, fullState(), name, vals(impl.Val{}), 1)
	}
}

// fitting are so many values that each name takes, if it takes as many.
func fitting(name string, many int) []impl.Val {
	of := numberVal("1")
	if strings.HasPrefix(name, "set-c") || name == "car" || name == "cdr" {
		of = pairVal(1)
	} else if strings.HasPrefix(name, "error-") {
		of = errorVal(0)
	}
	return slices.Repeat(vals(of), many)
}

func TestHowManyValuesAreTaken(t *testing.T) {
	for _, name := range plainNames() {
		takes := plainTakes[name]
		for many := range 104 {
			want := 3
			if takes[0] <= many && many <= takes[1] {
				want = 0
			}
			if _, _, code := demandPlain(t, fullState(), name, fitting(name, many)); code != want {
				t.Errorf("%s of %d values: code %d, want %d", name, many, code, want)
			}
		}
	}
}

func TestEachNameWithEachKind(t *testing.T) {
	for _, name := range plainNames() {
		for _, v := range eachKind() {
			demandPlain(t, fullState(), name, vals(v))
			for _, other := range eachKind() {
				demandPlain(t, fullState(), name, vals(v, other))
				demandPlain(t, fullState(), name, vals(v, other, v))
			}
		}
		for _, v := range vals(impl.Val{}, impl.Val{Kind: 13, Text: "1"}, impl.Val{Kind: -1}, pairVal(-1), pairVal(6), closureVal(2), contVal(2), paramVal(2), errorVal(2), errorVal(math.MinInt), pairVal(math.MaxInt)) {
			for place := range 3 {
				given := fitting(name, 3)
				given[place] = v
				demandCode(t, fullState(), name, given, 1)
				demandCode(t, fullState(), name, given[:place+1], 1)
			}
		}
	}
}

func TestSumsAndProducts(t *testing.T) {
	for _, c := range []struct {
		name, of, want string
	}{
		{"+", "", "0"}, {"+", "5", "5"}, {"+", "1 2 3", "6"}, {"+", "1/2 1/3 1/6", "1"}, {"+", "-1 1", "0"}, {"+", nines(60) + " -1 1", nines(60)},
		{"*", "", "1"}, {"*", "5", "5"}, {"*", "2 3 4", "24"}, {"*", "2/3 3/2", "1"}, {"*", "-1 -1 -1", "-1"}, {"*", "0 " + nines(60) + " " + nines(60), "0"},
		{"-", "3", "-3"}, {"-", "0", "0"}, {"-", "-1/2", "1/2"}, {"-", "9 3 1", "5"}, {"-", "1 2", "-1"}, {"-", "0 0", "0"},
		{"/", "4", "1/4"}, {"/", "-1/4", "-4"}, {"/", "9 3 2", "3/2"}, {"/", "1 3", "1/3"}, {"/", "0 5", "0"}, {"/", "6 4", "3/2"},
		{"quotient", "7 2", "3"}, {"quotient", "-7 2", "-3"}, {"quotient", "7 -2", "-3"}, {"quotient", "-7 -2", "3"}, {"quotient", "0 3", "0"},
		{"modulo", "7 2", "1"}, {"modulo", "-7 2", "1"}, {"modulo", "7 -2", "-1"}, {"modulo", "-7 -2", "-1"}, {"modulo", "6 3", "0"},
		{"+", "007", "7"}, {"+", "-0", "0"}, {"+", "+5 1.50", "13/2"}, {"*", "4/6", "2/3"}, {"-", "007", "-7"}, {"-", "00.50", "-1/2"}, {"/", "10/4 1", "5/2"}, {"quotient", "8/2 02", "2"}, {"modulo", "7.0 4/2", "1"},
	} {
		demandVal(t, fullState(), c.name, numberVals(strings.Fields(c.of)...), numberVal(c.want))
	}
}

func TestOrders(t *testing.T) {
	for of, want := range map[string][2]string{
		"1": {"t", "f"}, "1 1": {"t", "f"}, "1 2": {"f", "t"}, "2 1": {"f", "f"}, "1 1 1": {"t", "f"}, "1 2 3": {"f", "t"}, "1 1 2": {"f", "f"}, "1 2 2": {"f", "f"}, "2 1 1": {"f", "f"}, "2 2 1": {"f", "f"}, "1 3 2": {"f", "f"}, "2 1 2": {"f", "f"}, "1 2 1": {"f", "f"},
		"1/2 0.5 2/4 00.50": {"t", "f"}, "-2 -1 -1/2 0 1/3 1/2 1": {"f", "t"}, "-0 0": {"t", "f"}, nines(60) + " " + nines(60): {"t", "f"}, "1/" + nines(60) + " 1/" + minusOne(nines(60)): {"f", "t"},
	} {
		given := numberVals(strings.Fields(of)...)
		demandVal(t, fullState(), "=", given, impl.Val{Kind: impl.ValBool, Text: want[0]})
		less := want[1]
		if len(given) == 1 {
			less = "t"
		}
		demandVal(t, fullState(), "<", given, impl.Val{Kind: impl.ValBool, Text: less})
	}
}

func TestWhatIsNoNumber(t *testing.T) {
	for _, name := range []string{"+", "*", "-", "/", "quotient", "modulo", "=", "<"} {
		for _, text := range []string{"", "x", "1/0", "--1", "1/", "/1", ".", "ff", " 1", "1 ", nines(61), "1/" + nines(61), "1e3", "#t"} {
			for place := range 2 {
				given := numberVals("1", "1")
				given[place].Text = text
				demandCode(t, fullState(), name, given, 2)
			}
		}
		for _, v := range eachKind()[1:] {
			v.Text = "1"
			demandCode(t, fullState(), name, vals(v, numberVal("1")), 2)
			demandCode(t, fullState(), name, vals(numberVal("1"), v), 2)
		}
	}
}

func TestByNoughtAndNotWhole(t *testing.T) {
	for name, all := range map[string][]string{
		"/":        {"0", "1 0", "0 0", "1 2 0", "1 0 2", "1 -0", "1 0/5"},
		"quotient": {"1 0", "0 0", "1/2 1", "1 1/2", "1/2 1/2", "1/2 0", "1.5 3"},
		"modulo":   {"1 0", "0 0", "1/2 1", "1 1/2", "1/2 1/2", "1/2 0", "3 1.5"},
	} {
		for _, of := range all {
			demandCode(t, fullState(), name, numberVals(strings.Fields(of)...), 2)
		}
	}
}

func TestTooBig(t *testing.T) {
	big, one := nines(60), "1"
	for _, c := range []struct {
		name string
		code int
		of   []string
	}{
		{"+", 4, []string{big, one}}, {"+", 4, []string{big, one, "-1"}}, {"+", 4, []string{"1", "1", big}}, {"+", 4, []string{"1/" + big, "1/" + minusOne(big)}},
		{"*", 4, []string{big, "2"}}, {"*", 4, []string{big, "2", "0"}}, {"*", 4, []string{"1", "2", big}}, {"*", 4, []string{big, big, "0"}},
		{"-", 4, []string{"-" + big, one}}, {"-", 4, []string{"-" + big, one, "-1"}}, {"-", 4, []string{"0", big, one}},
		{"/", 4, []string{big, "1/2"}}, {"/", 4, []string{big, "1/2", "0"}}, {"/", 4, []string{"1", big, "2"}}, {"/", 4, []string{"1/" + big, "7", "0"}},
		{"/", 2, []string{big, "0", "1/2"}}, {"/", 2, []string{"1", "0", "0"}},
		{"+", 2, []string{big, one, "x"}}, {"*", 2, []string{big, big, nines(61)}}, {"/", 2, []string{big, "1/2", ""}}, {"-", 2, []string{"x"}},
		{"=", 2, []string{"1", "2", "x"}}, {"<", 2, []string{"2", "1", "x"}},
	} {
		demandCode(t, fullState(), c.name, numberVals(c.of...), c.code)
	}
	demandVal(t, fullState(), "*", numberVals("0", big, big), numberVal("0"))
	demandVal(t, fullState(), "+", numberVals(minusOne(big), one), numberVal(big))
	demandVal(t, fullState(), "/", numberVals(big), numberVal("1/"+big))
	demandVal(t, fullState(), "quotient", numberVals(big, "-1"), numberVal("-"+big))
}

// Of two codes the one that is listed first is told.
func TestTwoCodes(t *testing.T) {
	bad, s := impl.Val{}, fullState()
	demandCode(t, s, "car", vals(bad, bad), 1)
	demandCode(t, s, "nothing", vals(bad, bad), 1)
	demandCode(t, s, "car", vals(numberVal("1"), bad), 1)
	demandCode(t, s, "car", vals(numberVal("1"), numberVal("1")), 3)
	demandCode(t, s, "car", nil, 3)
	demandCode(t, s, "-", nil, 3)
	demandCode(t, s, "+", slices.Repeat(vals(nilVal()), 100), 3)
	demandCode(t, s, "+", slices.Repeat(vals(nilVal()), 99), 2)
	demandCode(t, s, "+", append(slices.Repeat(numberVals(nines(60)), 99), nilVal()), 3)
	demandCode(t, s, "*", append(slices.Repeat(numberVals(nines(60)), 98), nilVal()), 2)
	demandCode(t, s, "*", append(slices.Repeat(numberVals(nines(60)), 98), numberVal("0")), 4)
	demandCode(t, s, "quotient", vals(nilVal()), 3)
	demandCode(t, s, "quotient", numberVals("1", "0", "0"), 3)
	demandCode(t, s, "display", vals(pairVal(2), pairVal(2)), 3)
	demandCode(t, s, "display", vals(pairVal(2), bad), 1)
	demandCode(t, s, "set-car!", vals(numberVal("1"), bad), 1)
	s.Pairs[3].Cdr = bad
	for _, name := range append(plainNames(), "values", "nothing") {
		for many := range 3 {
			demandCode(t, s, name, fitting(name, many), 1)
			demandCode(t, s, name, numberVals("x", "1", "0")[:many], 1)
		}
	}
}

func TestPairsThatAreMade(t *testing.T) {
	s := fullState()
	one, two, three := numberVal("1"), numberVal("2"), numberVal("3")
	after := demandVal(t, s, "cons", vals(one, pairVal(2)), pairVal(6))
	if !same(after.Pairs, append(slices.Clone(s.Pairs), impl.CorePair{Car: one, Cdr: pairVal(2)})) {
		t.Errorf("%v", after.Pairs)
	}
	after = demandVal(t, s, "list", vals(one, two, three), pairVal(8))
	if !same(after.Pairs[6:], []impl.CorePair{{Car: three, Cdr: nilVal()}, {Car: two, Cdr: pairVal(6)}, {Car: one, Cdr: pairVal(7)}}) {
		t.Errorf("%v", after.Pairs)
	}
	after = demandVal(t, impl.CoreState{}, "list", nil, nilVal())
	if !same(after, impl.CoreState{}) {
		t.Errorf("%v", after)
	}
	demandVal(t, impl.CoreState{}, "cons", vals(one, two), pairVal(0))
	after = demandVal(t, impl.CoreState{}, "list", slices.Repeat(vals(one), 99), pairVal(98))
	demandShow(t, after, pairVal(98), "("+strings.Repeat("1 ", 98)+"1)", true)
	demandCode(t, impl.CoreState{}, "cons", vals(one, pairVal(0)), 1)
}

// cons of two has the two as car and cdr.
func TestPartsOfPairs(t *testing.T) {
	for _, car := range eachKind() {
		for _, cdr := range eachKind() {
			s, pair, code := impl.CorePlain(fullState(), "cons", vals(car, cdr))
			if code != 0 {
				t.Errorf("cons of %v and %v: code %d", car, cdr, code)
			}
			demandVal(t, s, "car", vals(pair), car)
			demandVal(t, s, "cdr", vals(pair), cdr)
		}
	}
	for _, name := range []string{"car", "cdr"} {
		for _, v := range eachKind() {
			if v.Kind != impl.ValPair {
				demandCode(t, fullState(), name, vals(v), 2)
				demandCode(t, fullState(), "set-"+name+"!", vals(v, pairVal(0)), 2)
			}
		}
	}
}

func TestPairsThatAreSet(t *testing.T) {
	for at := range 6 {
		for _, v := range append(eachKind(), pairVal(at)) {
			s := fullState()
			after := demandVal(t, s, "set-car!", vals(pairVal(at), v), noneVal())
			s.Pairs[at].Car = v
			if !same(after, s) {
				t.Errorf("set-car! of %d, %v: %v", at, v, after.Pairs)
			}
			after = demandVal(t, s, "set-cdr!", vals(pairVal(at), v), noneVal())
			s.Pairs[at].Cdr = v
			if !same(after, s) {
				t.Errorf("set-cdr! of %d, %v: %v", at, v, after.Pairs)
			}
		}
	}
}

func TestSameValues(t *testing.T) {
	s := fullState()
	for _, v := range eachKind() {
		for _, name := range []string{"eq?", "equal?"} {
			for _, other := range eachKind() {
				demandVal(t, s, name, vals(v, other), wantBool(v == other))
			}
			if v.Kind == impl.ValPair {
				continue
			}
			another := v
			another.Text += "x"
			demandVal(t, s, name, vals(v, another), falseVal())
			another = v
			another.At = 1 - v.At
			demandVal(t, s, name, vals(v, another), falseVal())
			another = v
			if another.Kind = v.Kind%12 + 1; another.Kind != v.Kind && wantOf(s, another) {
				demandVal(t, s, name, vals(v, another), falseVal())
			}
		}
	}
	demandVal(t, s, "eq?", vals(pairVal(1), impl.Val{Kind: impl.ValPair, At: 1, Text: "x"}), falseVal())
	demandVal(t, s, "equal?", vals(pairVal(1), impl.Val{Kind: impl.ValPair, At: 1, Text: "x"}), trueVal())
	demandVal(t, s, "eq?", numberVals("1", "01"), falseVal())
	demandVal(t, s, "equal?", numberVals("1", "1/1"), falseVal())
}

func TestEqualPairs(t *testing.T) {
	one, two := numberVal("1"), numberVal("2")
	for _, c := range []struct {
		s    impl.CoreState
		want bool
	}{
		{pairsOf(one, nilVal(), one, nilVal()), true},
		{pairsOf(one, nilVal(), two, nilVal()), false},
		{pairsOf(one, nilVal(), one, two), false},
		{pairsOf(pairVal(2), two, pairVal(3), two, one, nilVal(), one, nilVal()), true},
		{pairsOf(pairVal(2), two, pairVal(3), two, one, nilVal(), one, two), false},
		{pairsOf(one, pairVal(2), one, pairVal(3), two, nilVal(), two, nilVal()), true},
		{pairsOf(one, pairVal(2), one, pairVal(3), two, nilVal(), one, nilVal()), false},
		{pairsOf(one, pairVal(1), one, nilVal()), false},
		{pairsOf(one, one, one, pairVal(0)), false},
		{pairsOf(pairVal(1), one, one, one), false},
	} {
		after := demandVal(t, c.s, "equal?", vals(pairVal(0), pairVal(1)), wantBool(c.want))
		if after.Stop != 0 {
			t.Errorf("%v stands", c.s.Pairs)
		}
		demandVal(t, c.s, "eq?", vals(pairVal(0), pairVal(1)), falseVal())
		demandVal(t, c.s, "equal?", vals(pairVal(0), one), falseVal())
		demandVal(t, c.s, "equal?", vals(one, pairVal(0)), falseVal())
	}
}

func TestEqualOfPairsThatGoAround(t *testing.T) {
	one, two := numberVal("1"), numberVal("2")
	for _, c := range []struct {
		what string
		s    impl.CoreState
		stop int
	}{
		{"both, by the Cdr", pairsOf(one, pairVal(0), one, pairVal(1)), impl.StopOut},
		{"both, by the Car", pairsOf(pairVal(0), one, pairVal(1), one), impl.StopOut},
		{"both, in another rhythm", pairsOf(one, pairVal(0), one, pairVal(2), one, pairVal(1)), impl.StopOut},
		{"both, not equal", pairsOf(one, pairVal(0), two, pairVal(1)), 0},
		{"both, not equal later", pairsOf(one, pairVal(0), one, pairVal(2), two, pairVal(1)), 0},
		{"one of them", pairsOf(one, pairVal(0), one, pairVal(2), one, nilVal()), 0},
		{"one of them, by its Car", pairsOf(pairVal(0), one, pairVal(2), one, one, nilVal()), 0},
	} {
		for _, given := range [][]impl.Val{vals(pairVal(0), pairVal(1)), vals(pairVal(1), pairVal(0))} {
			after := demandVal(t, c.s, "equal?", given, falseVal())
			if after.Stop != c.stop {
				t.Errorf("%s: stands with %d", c.what, after.Stop)
			}
		}
	}
	s := pairsOf(one, pairVal(0))
	if after := demandVal(t, s, "equal?", vals(pairVal(0), pairVal(0)), falseVal()); after.Stop != impl.StopOut {
		t.Errorf("one that goes around, with itself: %d", after.Stop)
	}
	demandVal(t, s, "eq?", vals(pairVal(0), pairVal(0)), trueVal())
}

// twoLists has two lists of so many values at the pairs 0 and many, which are the same but for what they end in.
func twoLists(many int, end, otherEnd impl.Val) impl.CoreState {
	one := numberVal("1")
	s := listState(many, one, end)
	for i := range many {
		s.Pairs = append(s.Pairs, impl.CorePair{Car: one, Cdr: pairVal(many + i + 1)})
	}
	s.Pairs[2*many-1].Cdr = otherEnd
	return s
}

// Of two lists of n values 2n + 1 are compared, if they are equal: never just CoreMaxOut.
func TestHowManyValuesAreCompared(t *testing.T) {
	half := impl.CoreMaxOut / 2
	for _, c := range []struct {
		what string
		s    impl.CoreState
		many int
		want bool
		stop int
	}{
		{"one fewer, equal", twoLists(half-1, nilVal(), nilVal()), half - 1, true, 0},
		{"one fewer, not equal", twoLists(half-1, nilVal(), noneVal()), half - 1, false, 0},
		{"one more, equal", twoLists(half, nilVal(), nilVal()), half, false, impl.StopOut},
		{"one more, not equal", twoLists(half, nilVal(), noneVal()), half, false, impl.StopOut},
		{"many more", twoLists(half+300, nilVal(), nilVal()), half + 300, false, impl.StopOut},
	} {
		after := demandVal(t, c.s, "equal?", vals(pairVal(0), pairVal(c.many)), wantBool(c.want))
		if after.Stop != c.stop {
			t.Errorf("%s: stands with %d", c.what, after.Stop)
		}
	}
	just := twoLists(half, nilVal(), nilVal())
	just.Pairs[half-1].Car = numberVal("2")
	if after := demandVal(t, just, "equal?", vals(pairVal(0), pairVal(half)), falseVal()); after.Stop != impl.StopOut {
		t.Errorf("just as many, not equal: %d", after.Stop)
	}
	fewer := twoLists(half-1, nilVal(), nilVal())
	fewer.Pairs[half-2].Car = numberVal("2")
	if after := demandVal(t, fewer, "equal?", vals(pairVal(0), pairVal(half-1)), falseVal()); after.Stop != 0 {
		t.Errorf("two fewer, not equal: %d", after.Stop)
	}
}

func TestWhatIsAsked(t *testing.T) {
	yes := map[string][]int{"null?": {5}, "pair?": {6}, "number?": {1}, "symbol?": {4}, "error?": {12}, "procedure?": {7, 8, 9, 11}, "not": {}}
	for name, kinds := range yes {
		for _, v := range eachKind() {
			demandVal(t, fullState(), name, vals(v), wantBool(slices.Contains(kinds, v.Kind)))
		}
	}
	demandVal(t, fullState(), "not", vals(falseVal()), trueVal())
	for _, text := range []string{"", "t", "F", "ff", "#f", "f "} {
		demandVal(t, fullState(), "not", vals(impl.Val{Kind: impl.ValBool, Text: text}), falseVal())
	}
	for _, at := range []int{1, -1, 7} {
		demandVal(t, fullState(), "not", vals(impl.Val{Kind: impl.ValBool, Text: "f", At: at}), falseVal())
	}
	demandVal(t, fullState(), "not", vals(symbolVal("f")), falseVal())
	for _, text := range []string{"", "x", "007", nines(61)} {
		demandVal(t, fullState(), "number?", numberVals(text), trueVal())
	}
}

func TestWhatIsDisplayed(t *testing.T) {
	s := fullState()
	for _, v := range eachKind() {
		text, _ := impl.CoreShow(s, v)
		if after := demandVal(t, s, "display", vals(v), noneVal()); after.Out != "shown"+text || after.Stop != 0 {
			t.Errorf("%v: %q %d", v, after.Out, after.Stop)
		}
	}
	if after := demandVal(t, s, "newline", nil, noneVal()); after.Out != "shown\n" || after.Stop != 0 {
		t.Errorf("newline: %q %d", after.Out, after.Stop)
	}
	s.Stop = impl.StopError
	if after := demandVal(t, s, "display", numberVals("1"), noneVal()); after.Out != "shown1" || after.Stop != impl.StopError {
		t.Errorf("of a state that stands: %q %d", after.Out, after.Stop)
	}
}

func TestOutThatIsFull(t *testing.T) {
	full := strings.Repeat("o", impl.CoreMaxOut)
	for _, c := range []struct {
		out, text string
		fits      bool
	}{
		{"", full, true}, {full[1:], "x", true}, {full[5:], "12345", true}, {full, "", true},
		{"", full + "o", false}, {full, "x", false}, {full[4:], "12345", false}, {full + "o", "", false}, {full + full, "x", false}, {full[1:], "xx", false},
	} {
		s := fullState()
		s.Out = c.out
		after := demandVal(t, s, "display", vals(stringVal(c.text)), noneVal())
		want, stop := c.out, impl.StopOut
		if c.fits {
			want, stop = c.out+c.text, 0
		}
		if after.Out != want || after.Stop != stop {
			t.Errorf("%d bytes behind %d: %d bytes, stands with %d", len(c.text), len(c.out), len(after.Out), after.Stop)
		}
		after = demandVal(t, s, "newline", nil, noneVal())
		if (len(c.out) < impl.CoreMaxOut) != (after.Stop == 0 && after.Out == c.out+"\n") {
			t.Errorf("newline behind %d: %d bytes, stands with %d", len(c.out), len(after.Out), after.Stop)
		}
	}
	for _, at := range []int{2, 3} {
		if after := demandVal(t, fullState(), "display", vals(pairVal(at)), noneVal()); after.Stop != impl.StopOut || after.Out != "shown" {
			t.Errorf("of what goes around: %q, stands with %d", after.Out, after.Stop)
		}
	}
	pieces := listState(impl.CoreMaxOut/2, stringVal(""), nilVal())
	if after := demandVal(t, pieces, "display", vals(pairVal(0)), noneVal()); after.Stop != impl.StopOut || after.Out != "" {
		t.Errorf("of too many pieces: %q, stands with %d", after.Out, after.Stop)
	}
}

func TestParametersAndErrors(t *testing.T) {
	for _, v := range eachKind() {
		s := fullState()
		after := demandVal(t, s, "make-parameter", vals(v), paramVal(2))
		if !same(after.Params, append(slices.Clone(s.Params), v)) {
			t.Errorf("%v", after.Params)
		}
		demandVal(t, after, "make-parameter", vals(paramVal(2)), paramVal(3))
		if v.Kind != impl.ValError {
			demandCode(t, s, "error-text", vals(v), 2)
			demandCode(t, s, "error-list", vals(v), 2)
		}
	}
	demandVal(t, impl.CoreState{}, "make-parameter", vals(nilVal()), paramVal(0))
	s := fullState()
	demandVal(t, s, "error-text", vals(errorVal(0)), stringVal("bad"))
	demandVal(t, s, "error-text", vals(errorVal(1)), stringVal(""))
	demandVal(t, s, "error-text", vals(impl.Val{Kind: impl.ValError, At: 0, Text: "x"}), stringVal("bad"))
	demandVal(t, s, "error-list", vals(errorVal(0)), pairVal(1))
	demandVal(t, s, "error-list", vals(errorVal(1)), nilVal())
	s.Errors[1] = impl.CoreErr{Text: "\x00\xff", List: impl.Val{Kind: 99, At: -7}}
	demandVal(t, s, "error-text", vals(errorVal(1)), stringVal("\x00\xff"))
	demandVal(t, s, "error-list", vals(errorVal(1)), impl.Val{Kind: 99, At: -7})
}

func TestPlainOfMadeStates(t *testing.T) {
	m := valMaker{formMaker{state: 29}}
	met := map[int]int{}
	for range 400 {
		s := m.state()
		for _, name := range plainNames() {
			_, _, code := demandPlain(t, s, name, m.given(s, name))
			met[code]++
		}
		if t.Failed() {
			return
		}
	}
	for code, least := range []int{3000, 300, 300, 300, 50} {
		if met[code] < least {
			t.Errorf("%d with code %d", met[code], code)
		}
	}
}

// What comes of several, one behind the other, each on the state that the one ahead left.
func TestPlainOneBehindTheOther(t *testing.T) {
	m := valMaker{formMaker{state: 31}}
	names := plainNames()
	for range 60 {
		s := fullState()
		for range 60 {
			name := names[m.below(len(names))]
			s, _, _ = demandPlain(t, s, name, m.given(s, name))
		}
		if t.Failed() {
			return
		}
	}
}

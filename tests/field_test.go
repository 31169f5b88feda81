package tests

import (
	"slices"
	"strings"
	"testing"

	"loop.example/siskin/impl"
)

func TestAdd(t *testing.T) {
	for _, c := range [][3]string{
		{"0", "0", "0"}, {"0", "1", "1"}, {"0", "-5/3", "-5/3"}, {"1", "2", "3"}, {"-1", "2", "1"}, {"1", "-2", "-1"}, {"1/6", "-1/2", "-1/3"}, {"1/6", "1/2", "2/3"}, {"7/2", "3", "13/2"}, {"-3", "7/2", "1/2"},
		{"1/2", "1/3", "5/6"}, {"5/6", "7/10", "23/15"}, {"1/4", "1/4", "1/2"}, {"1/6", "1/3", "1/2"}, {"1/10", "1/15", "1/6"},
		{"1/2", "1/2", "1"}, {"1/3", "2/3", "1"}, {"3/4", "1/4", "1"}, {"3/2", "-1/2", "1"}, {"7/6", "17/6", "4"}, {"1/3", "-4/3", "-1"},
		{"999999999", "1", "1000000000"}, {"1000000000", "-1", "999999999"}, {"1000000000000000000", "-1", "999999999999999999"}, {"999999999999999999", "999999999999999999", "1999999999999999998"}, {"18446744073709551615", "1", "18446744073709551616"}, {nines(58), "1", tens(58)}, {"1000000001", "-1000000000", "1"}, {"1/1000000000", "1/999999999", "1999999999/999999999000000000"},
	} {
		demandSums(t, c[0], c[1], c[2])
	}
}

func TestSub(t *testing.T) {
	for _, c := range [][3]string{
		{"0", "0", "0"}, {"0", "1", "-1"}, {"1", "0", "1"}, {"0", "-5/3", "5/3"}, {"-5/3", "0", "-5/3"}, {"1", "2", "-1"}, {"2", "1", "1"}, {"-1", "2", "-3"}, {"1", "-2", "3"}, {"-1", "-2", "1"}, {"-2", "-1", "-1"},
		{"1/6", "-1/2", "2/3"}, {"1/6", "1/2", "-1/3"}, {"-1/6", "-1/2", "1/3"}, {"1/2", "1/3", "1/6"}, {"5/6", "7/10", "2/15"}, {"1/2", "1/6", "1/3"}, {"7/2", "3", "1/2"}, {"3", "7/2", "-1/2"},
		{"3/2", "1/2", "1"}, {"1/3", "4/3", "-1"}, {"1/2", "-1/2", "1"}, {"-1/3", "2/3", "-1"}, {"17/6", "-7/6", "4"},
		{"1000000000", "1", "999999999"}, {"1", "1000000000", "-999999999"}, {"1000000000000000000", "1", "999999999999999999"}, {"1000000000000000000", "999999999", "999999999000000001"}, {"-999999999", "1", "-1000000000"}, {tens(58), "1", nines(58)}, {tens(58), nines(58), "1"}, {nines(58), tens(58), "-1"}, {"18446744073709551616", "1", "18446744073709551615"},
	} {
		taking.demand(t, c[0], c[1], c[2])
	}
}

// Sums that are nought are it, over 1 and without a sign.
func TestSumsThatAreNought(t *testing.T) {
	for _, n := range slices.Concat(smallNums(), edgeNums(), someNumsOk()) {
		for _, c := range []struct {
			op   fieldOp
			a, b impl.Num
		}{{adding, n, opposite(n)}, {adding, opposite(n), n}, {taking, n, n}, {taking, opposite(n), opposite(n)}} {
			if got, code := c.op.do(c.a, c.b); got != whole("0") || code != 0 {
				t.Errorf("%s of %+v and %+v is %+v, %d, and not nought", c.op.name, c.a, c.b, got, code)
			}
		}
	}
}

// Sums of just as many digits above as may be, and one more; some are too big only ahead of lowest terms.
func TestSumsAtTheLimitAbove(t *testing.T) {
	half, oneLess := "5"+noughts(59), nines(59)+"8"
	for _, c := range [][3]string{
		{nines(60), "0", nines(60)}, {nines(60), "1", "code 3"}, {oneLess, "1", nines(60)}, {oneLess, "2", "code 3"}, {nines(60), "-1", oneLess}, {nines(60), nines(60), "code 3"}, {nines(60), "-" + nines(60), "0"},
		{half, half, "code 3"}, {half, "4" + nines(59), nines(60)}, {tens(59), tens(59), "2" + noughts(59)}, {nines(59), "1", tens(59)}, {tens(59), "-1", nines(59)},
		{nines(60), "1/2", "code 3"}, {nines(60), "-1/2", "code 3"}, {"4" + nines(59), "1/2", over(nines(60), "2")}, {half, "1/2", "code 3"}, {half, "-1/2", over(nines(60), "2")},
		{over(nines(60), "2"), "1/2", half}, {over(nines(60), "2"), over(nines(60), "2"), nines(60)}, {over(nines(60), "2"), "1/3", "code 3"},
		{over(nines(60), tens(59)), over("1", tens(59)), "10"}, {over(nines(60), tens(59)), over("1", "5"+noughts(58)), "code 3"}, {over(nines(60), tens(59)), over("-"+nines(60), tens(59)), "0"},
	} {
		demandSums(t, c[0], c[1], c[2])
	}
}

func TestSumsAtTheLimitBelow(t *testing.T) {
	three := "3" + noughts(59)
	for _, c := range [][3]string{
		{over("1", tens(30)), over("1", plusOne(tens(29))), over("11"+noughts(28)+"1", times(tens(30), plusOne(tens(29))))}, {over("1", tens(30)), over("1", plusOne(tens(30))), "code 3"},
		{over("1", nines(60)), "0", over("1", nines(60))}, {over("1", nines(60)), over("1", nines(60)), over("2", nines(60))}, {over("1", nines(60)), "1", "code 3"}, {over("1", nines(60)), "-1", over("-"+nines(59)+"8", nines(60))}, {over("1", nines(60)), over("1", nines(59)+"8"), "code 3"},
		{over("1", tens(59)), "1/2", over("5"+noughts(57)+"1", tens(59))}, {over("1", tens(59)), "1/8", over("125"+noughts(55)+"1", tens(59))}, {over("1", tens(59)), "1/3", over("1"+noughts(58)+"3", three)}, {over("1", tens(59)), "1/9", over("1"+noughts(58)+"9", "9"+noughts(59))}, {over("1", tens(59)), "1/11", "code 3"}, {over("1", tens(59)), "1/7", over("1"+noughts(58)+"7", "7"+noughts(59))}, {over("1", tens(59)), "1/13", "code 3"},
		{over("1", three), "1/3", over("1"+noughts(58)+"1", three)}, {over("1", three), over("1", "15"+noughts(58)), over("1", tens(59))}, {over("1", "6"+noughts(58)), over("1", "3"+noughts(58)), over("1", "2"+noughts(58))},
	} {
		demandSums(t, c[0], c[1], c[2])
	}
}

func TestMul(t *testing.T) {
	for _, c := range [][3]string{
		{"0", "0", "0"}, {"0", "1", "0"}, {"0", "5/3", "0"}, {"0", nines(60), "0"}, {"0", over("1", nines(60)), "0"}, {"1", "1", "1"}, {"1", "5/3", "5/3"}, {"2", "3", "6"}, {"7", "1/2", "7/2"}, {"1/2", "1/3", "1/6"},
		{"2/3", "3/4", "1/2"}, {"2/3", "3/2", "1"}, {"6", "2/3", "4"}, {"5/6", "9/10", "3/4"}, {"1/6", "1/2", "1/12"}, {"10/3", "9/5", "6"},
		{"999999999", "999999999", "999999998000000001"}, {"1000000000", "1000000000", "1000000000000000000"}, {"999999999", "1000000001", "999999999999999999"}, {"18446744073709551616", "18446744073709551616", "340282366920938463463374607431768211456"}, {nines(30), nines(30), nines(29) + "8" + noughts(29) + "1"}, {"1/1000000000", "1/999999999", "1/999999999000000000"}, {"1000000007/1000000009", "1000000009/1000000007", "1"},
	} {
		multiplying.demandSigns(t, c[0], c[1], c[2])
		multiplying.demandSigns(t, c[1], c[0], c[2])
	}
}

// Products of just as many digits as may be, and one more; some are too big only ahead of lowest terms.
func TestProductsAtTheLimit(t *testing.T) {
	threes := strings.Repeat("3", 60)
	for _, c := range [][3]string{
		{nines(60), "1", nines(60)}, {tens(58), "10", tens(59)}, {tens(59), "10", "code 3"}, {tens(30), tens(29), tens(59)}, {tens(30), tens(30), "code 3"}, {threes, "3", nines(60)}, {threes[:58] + "4", "3", "1" + noughts(58) + "2"}, {threes[:59] + "4", "3", "code 3"}, {nines(30), plusOne(tens(30)), nines(60)}, {nines(60), nines(60), "code 3"},
		{over("1", tens(58)), "1/10", over("1", tens(59))}, {over("1", tens(59)), "1/10", "code 3"}, {over("1", tens(30)), over("1", tens(29)), over("1", tens(59))}, {over("1", tens(30)), over("1", tens(30)), "code 3"}, {over("1", nines(30)), over("1", plusOne(tens(30))), over("1", nines(60))}, {over("1", nines(60)), over("1", nines(60)), "code 3"},
		{nines(60), "1/3", threes}, {nines(60), "2/3", strings.Repeat("6", 60)}, {nines(60), "4/9", strings.Repeat("4", 60)}, {nines(60), "2/5", "code 3"}, {nines(60), "10/9", "code 3"}, {nines(60), "5/2", "code 3"},
		{over("1", nines(60)), "3/2", over("1", strings.Repeat("6", 60))}, {over("1", nines(60)), "3/7", "code 3"}, {over("1", tens(59)), "2/15", over("1", "75"+noughts(58))}, {over("1", tens(59)), "2/21", "code 3"},
		{over(nines(60), tens(59)), over(tens(59), nines(60)), "1"}, {over(nines(60), nines(59)+"8"), over(nines(59)+"8", nines(60)), "1"}, {over(nines(60), tens(59)), over(nines(60), tens(59)), "code 3"}, {nines(60), over("1", tens(59)), over(nines(60), tens(59))}, {over(nines(60), tens(59)), "1/3", over(threes, tens(59))}, {over(nines(60), tens(59)), "1/7", over(times("142857", "1"+strings.Repeat("000001", 9)), tens(59))},
	} {
		multiplying.demandSigns(t, c[0], c[1], c[2])
		multiplying.demandSigns(t, c[1], c[0], c[2])
	}
}

func TestDiv(t *testing.T) {
	for _, c := range [][3]string{
		{"0", "1", "0"}, {"0", "5/3", "0"}, {"0", nines(60), "0"}, {"0", over("1", nines(60)), "0"}, {"1", "1", "1"}, {"5/3", "1", "5/3"}, {"1", "5/3", "3/5"}, {"1", "3", "1/3"}, {"1", "1/3", "3"}, {"6", "3", "2"}, {"6", "4", "3/2"}, {"4", "6", "2/3"},
		{"2/3", "4/3", "1/2"}, {"2/3", "2/3", "1"}, {"1/6", "1/2", "1/3"}, {"5/6", "10/9", "3/4"}, {"1/2", "3", "1/6"}, {"7/2", "7", "1/2"}, {"6", "2/3", "9"},
		{"999999998000000001", "999999999", "999999999"}, {"1000000000000000000", "1000000000", "1000000000"}, {"1", "1000000000", "1/1000000000"}, {"340282366920938463463374607431768211456", "18446744073709551616", "18446744073709551616"}, {"1000000007", "1000000009", "1000000007/1000000009"},
	} {
		dividing.demandSigns(t, c[0], c[1], c[2])
	}
}

// What comes of dividing, of just as many digits as may be, and one more; some is too big only ahead of lowest terms.
func TestDivAtTheLimit(t *testing.T) {
	threes := strings.Repeat("3", 60)
	for _, c := range [][3]string{
		{nines(60), "1", nines(60)}, {nines(60), nines(60), "1"}, {nines(60), nines(30), plusOne(tens(30))}, {"1", nines(60), over("1", nines(60))}, {nines(60), nines(59) + "8", over(nines(60), nines(59)+"8")}, {nines(59) + "8", nines(60), over(nines(59)+"8", nines(60))},
		{tens(58), "1/10", tens(59)}, {tens(59), "1/10", "code 3"}, {tens(30), over("1", tens(29)), tens(59)}, {tens(30), over("1", tens(30)), "code 3"}, {threes, "1/3", nines(60)}, {threes[:59] + "4", "1/3", "code 3"}, {nines(60), over("1", nines(60)), "code 3"},
		{over("1", tens(58)), "10", over("1", tens(59))}, {over("1", tens(59)), "10", "code 3"}, {over("1", tens(30)), tens(29), over("1", tens(59))}, {over("1", tens(30)), tens(30), "code 3"}, {over("1", nines(60)), nines(60), "code 3"},
		{nines(60), "3", threes}, {nines(60), "3/2", strings.Repeat("6", 60)}, {nines(60), "9/4", strings.Repeat("4", 60)}, {nines(60), "5/2", "code 3"}, {nines(60), "9/10", "code 3"},
		{over("1", nines(60)), "2/3", over("1", strings.Repeat("6", 60))}, {over("1", nines(60)), "7/3", "code 3"}, {over("1", tens(59)), "15/2", over("1", "75"+noughts(58))}, {over("1", tens(59)), "21/2", "code 3"},
		{over(nines(60), tens(59)), over(nines(60), tens(59)), "1"}, {over("1", nines(60)), over("1", nines(60)), "1"}, {over(nines(60), tens(59)), over(tens(59), nines(60)), "code 3"}, {nines(60), tens(59), over(nines(60), tens(59))}, {over(nines(60), tens(59)), "3", over(threes, tens(59))},
	} {
		dividing.demandSigns(t, c[0], c[1], c[2])
	}
}

func TestDivByNought(t *testing.T) {
	for _, n := range slices.Concat(smallNums(), edgeNums(), someNumsOk()) {
		if got, code := impl.NumDiv(n, whole("0")); got != (impl.Num{}) || code != 2 {
			t.Errorf("%+v by nought is %+v, %d", n, got, code)
		}
	}
}

// A number that is not ok, as the first, as the second and as both, is told ahead of all else.
func TestFieldAsksForNumbers(t *testing.T) {
	partners := []impl.Num{whole("0"), whole("1"), num("-1/2"), whole(nines(60)), num(over("-1", nines(60))), {}, below(whole("0")), {Up: "2", Down: "4"}}
	for what, n := range someNumsNotOk() {
		pairs := [][2]impl.Num{{n, n}}
		for _, partner := range partners {
			pairs = append(pairs, [2]impl.Num{n, partner}, [2]impl.Num{partner, n})
		}
		for i, p := range pairs {
			for _, op := range fieldOps {
				if got, code := op.do(p[0], p[1]); got != (impl.Num{}) || code != 1 {
					t.Errorf("%s: %s of pair %d is %+v, %d", what, op.name, i, got, code)
				}
			}
			if order := impl.NumCmp(p[0], p[1]); order != 0 {
				t.Errorf("%s: pair %d is compared as %d", what, i, order)
			}
		}
	}
}

func TestCmp(t *testing.T) {
	oneLess, twoLess := nines(59)+"8", nines(59)+"7"
	for _, c := range []struct {
		a, b string
		want int
	}{
		{"0", "0", 0}, {"0", "1", -1}, {"0", "1/2", -1}, {"0", "-1/2", 1}, {"0", nines(60), -1}, {"0", over("1", nines(60)), -1}, {"1", "1", 0}, {"1/2", "1/2", 0}, {"1", "-1", 1}, {"1/2", "-7", 1}, {"-5", "3", -1}, {"-5", "1/3", -1}, {nines(60), "-" + nines(60), 1},
		{"1", "2", -1}, {"9", "10", -1}, {"99", "100", -1}, {"19", "20", -1}, {"21", "12", 1}, {"1/2", "1/3", 1}, {"1/2", "2/3", -1}, {"2/3", "3/4", -1}, {"7/2", "3", 1}, {"7/2", "4", -1}, {"5/2", "12/5", 1}, {"3/7", "2/5", 1}, {"10/9", "9/8", -1},
		{"999999999", "1000000000", -1}, {"1000000001", "1000000000", 1}, {"2000000001", "1000000002", 1}, {"1000000000000000001", "1000000000000000000", 1}, {"18446744073709551615", "18446744073709551616", -1}, {"1/1000000000", "1/999999999", -1}, {"1000000007/1000000009", "1000000009/1000000011", -1},
		{nines(60), nines(60), 0}, {nines(60), oneLess, 1}, {nines(59), tens(59), -1}, {plusOne(tens(59)), tens(59), 1}, {over("1", nines(60)), over("1", oneLess), -1}, {over(nines(60), tens(59)), over(twoLess, tens(59)), 1}, {over(oneLess, nines(60)), over(twoLess, nines(60)), 1}, {over(oneLess, nines(60)), over(twoLess, oneLess), 1}, {over(nines(60), oneLess), over(oneLess, twoLess), -1}, {over(oneLess, nines(60)), "1", -1}, {over(nines(60), oneLess), "1", 1}, {over(plusOne(tens(59)), tens(59)), "1", 1}, {over(oneLess, nines(60)), over(oneLess, nines(60)), 0},
	} {
		demandCmp(t, c.a, c.b, c.want)
	}
}

// Each small number with each, and each of those at the edges with each.
func TestFieldOfEachWithEach(t *testing.T) {
	for _, numbers := range [][]impl.Num{smallNums(), edgeNums()} {
		codes := [4]int{}
		for _, a := range numbers {
			for _, b := range numbers {
				for _, op := range fieldOps {
					codes[op.hold(t, a, b)]++
				}
				if got := impl.NumCmp(a, b); got != wantCmp(a, b) {
					t.Errorf("%+v and %+v are compared as %d", a, b, got)
				}
			}
		}
		if codes[0] == 0 || codes[1] > 0 || codes[2] != len(numbers) {
			t.Errorf("codes have come as often as %v", codes)
		}
	}
}

func TestFieldOfMadePairs(t *testing.T) {
	m := numMaker{formMaker{state: 21}}
	codes := map[string][4]int{}
	for range 6000 {
		a, b := m.pair()
		for _, op := range fieldOps {
			count := codes[op.name]
			count[op.hold(t, a, b)]++
			codes[op.name] = count
		}
		if got := impl.NumCmp(a, b); got != wantCmp(a, b) {
			t.Errorf("%+v and %+v are compared as %d", a, b, got)
		}
	}
	for name, count := range codes {
		if count[0] < 1000 || count[1] > 0 || count[3] < 500 {
			t.Errorf("%s: codes have come as often as %v", name, count)
		}
	}
}

// An answer has nothing of the memory of what was handed in, and what was handed in is as it was.
func TestFieldSharesNoMemory(t *testing.T) {
	numbers := []impl.Num{whole("0"), whole("1"), num("-7"), num("12/35"), num("-12345/7"), whole(nines(60)), num(over("1", nines(60)))}
	for _, a := range numbers {
		for _, b := range numbers {
			for _, op := range fieldOps {
				o := overwritten{}
				one := impl.Num{Neg: a.Neg, Up: o.lend(a.Up), Down: o.lend(a.Down)}
				other := impl.Num{Neg: b.Neg, Up: o.lend(b.Up), Down: o.lend(b.Down)}
				got, code := op.do(one, other)
				if one != a || other != b {
					t.Errorf("%s leaves %+v and %+v as %+v and %+v", op.name, a, b, one, other)
				}
				o.overwrite()
				if want, wantCode := op.wantField(a, b); got != want || code != wantCode {
					t.Errorf("%s of %+v and %+v is %+v, in memory that was handed in", op.name, a, b, got)
				}
			}
		}
	}
}

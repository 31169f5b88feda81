package tests

import (
	"math"
	"math/big"
	"slices"
	"strings"
	"testing"

	"loop.example/siskin/impl"
)

// demandRound fails, if a number is not rounded as it is written by the four ways, and with the other sign the other way round.
func demandRound(t *testing.T, n, downward, upward, inward, nearest string) {
	t.Helper()
	for way, want := range map[int]string{impl.NumDownward: downward, impl.NumUpward: upward, impl.NumInward: inward, impl.NumNearest: nearest} {
		rounding.demand(t, n, "0", way, want)
	}
	for way, want := range map[int]string{impl.NumDownward: turned(upward), impl.NumUpward: turned(downward), impl.NumInward: turned(inward), impl.NumNearest: turned(nearest)} {
		rounding.demand(t, turned(n), "0", way, want)
	}
}

func TestWaysOfRoundingHaveTheirNumbers(t *testing.T) {
	if impl.NumDownward != 1 || impl.NumUpward != 2 || impl.NumInward != 3 || impl.NumNearest != 4 {
		t.Error("a way of rounding has another number")
	}
}

// P15: halves next to even and to odd whole numbers, what is just beside them, and what is between nought and one.
func TestRound(t *testing.T) {
	for _, c := range [][5]string{
		{"1/2", "0", "1", "0", "0"}, {"3/2", "1", "2", "1", "2"}, {"5/2", "2", "3", "2", "2"}, {"7/2", "3", "4", "3", "4"}, {"9/2", "4", "5", "4", "4"}, {"19/2", "9", "10", "9", "10"}, {"21/2", "10", "11", "10", "10"}, {"199/2", "99", "100", "99", "100"}, {"201/2", "100", "101", "100", "100"},
		{"49/100", "0", "1", "0", "0"}, {"51/100", "0", "1", "0", "1"}, {"149/100", "1", "2", "1", "1"}, {"151/100", "1", "2", "1", "2"}, {"249/100", "2", "3", "2", "2"}, {"251/100", "2", "3", "2", "3"},
		{"1/3", "0", "1", "0", "0"}, {"2/3", "0", "1", "0", "1"}, {"4/3", "1", "2", "1", "1"}, {"5/3", "1", "2", "1", "2"}, {"1/4", "0", "1", "0", "0"}, {"3/4", "0", "1", "0", "1"}, {"2/5", "0", "1", "0", "0"}, {"3/5", "0", "1", "0", "1"}, {"22/7", "3", "4", "3", "3"}, {"355/113", "3", "4", "3", "3"}, {"99/10", "9", "10", "9", "10"},
		{"1999999999/2", "999999999", "1000000000", "999999999", "1000000000"}, {"2000000001/2", "1000000000", "1000000001", "1000000000", "1000000000"}, {"36893488147419103231/2", "18446744073709551615", "18446744073709551616", "18446744073709551615", "18446744073709551616"}, {"36893488147419103233/2", "18446744073709551616", "18446744073709551617", "18446744073709551616", "18446744073709551616"},
		{"1000000000000000001/1000000000", "1000000000", "1000000001", "1000000000", "1000000000"}, {"999999999999999999/1000000000", "999999999", "1000000000", "999999999", "1000000000"},
	} {
		demandRound(t, c[0], c[1], c[2], c[3], c[4])
	}
}

// P15: a whole number stays.
func TestRoundOfWholes(t *testing.T) {
	for _, n := range edgeWholes() {
		for way := impl.NumDownward; way <= impl.NumNearest; way++ {
			if got, code := impl.NumRound(n, way); got != n || code != 0 {
				t.Errorf("%+v rounded by the way %d is %+v, %d", n, way, got, code)
			}
		}
	}
}

// Numbers of as many digits as may be. Over 2 at least, no such number has a digit more when it is rounded; so none is too big.
func TestRoundAtTheLimit(t *testing.T) {
	odd, even := "4"+nines(59), "5"+noughts(59)
	for _, c := range [][5]string{
		{nines(60), nines(60), nines(60), nines(60), nines(60)}, {tens(59), tens(59), tens(59), tens(59), tens(59)},
		{over(nines(60), "2"), odd, even, odd, even}, {over(nines(59)+"7", "2"), minusOne(odd), odd, minusOne(odd), minusOne(odd)}, {over(nines(59)+"8", "5"), "1" + nines(59), "2" + noughts(59), "1" + nines(59), "2" + noughts(59)}, {over(tens(59), "3"), strings.Repeat("3", 59), strings.Repeat("3", 58) + "4", strings.Repeat("3", 59), strings.Repeat("3", 59)}, {over("2"+noughts(59), "3"), strings.Repeat("6", 59), strings.Repeat("6", 58) + "7", strings.Repeat("6", 59), strings.Repeat("6", 58) + "7"},
		{over(nines(60), "10"), nines(59), tens(59), nines(59), tens(59)}, {over(nines(60), tens(59)), "9", "10", "9", "10"}, {over(nines(60), nines(59)+"8"), "1", "2", "1", "1"}, {over(nines(59)+"8", nines(60)), "0", "1", "0", "1"}, {over("1", nines(60)), "0", "1", "0", "0"}, {over("1", tens(59)), "0", "1", "0", "0"},
		{over("4"+nines(59), nines(60)), "0", "1", "0", "0"}, {over("5"+noughts(59), nines(60)), "0", "1", "0", "1"}, {over("4"+nines(58)+"7", nines(59)+"8"), "0", "1", "0", "0"}, {over("5"+noughts(58)+"1", nines(59)+"8"), "0", "1", "0", "1"},
	} {
		demandRound(t, c[0], c[1], c[2], c[3], c[4])
	}
}

// Nought has no sign, whatever it was rounded from.
func TestRoundToNought(t *testing.T) {
	for _, n := range []string{"-1/2", "-1/3", over("-1", nines(60)), over("-"+nines(59)+"8", nines(60)), "-49/100"} {
		rounding.demand(t, n, "0", impl.NumUpward, "0")
		rounding.demand(t, n, "0", impl.NumInward, "0")
	}
	rounding.demand(t, "-1/2", "0", impl.NumNearest, "0")
	rounding.demand(t, "-49/100", "0", impl.NumNearest, "0")
}

func TestRoundAsksForAWay(t *testing.T) {
	ways := []int{math.MinInt, math.MinInt + 1, -1 << 32, 1<<32 + 1, 1<<40 + 4, math.MaxInt - 3, math.MaxInt}
	for way := -300; way < 300; way++ {
		if way < 1 || way > 4 {
			ways = append(ways, way)
		}
	}
	for _, way := range ways {
		for _, n := range []impl.Num{whole("0"), whole("7"), num("-5/2"), whole(nines(60)), {}, {Up: "2", Down: "4"}} {
			if got, code := impl.NumRound(n, way); got != (impl.Num{}) || code != 1 {
				t.Errorf("%+v rounded by the way %d is %+v, %d", n, way, got, code)
			}
		}
	}
}

// demandDivided fails, if whole numbers above nought are not divided as it is written; with signs of all four kinds what comes, and what is left towards nought, follow from it.
func demandDivided(t *testing.T, a, b, quotient, left string) {
	t.Helper()
	quo.demand(t, a, b, 0, quotient+" "+left)
	quo.demand(t, turned(a), b, 0, turned(quotient)+" "+turned(left))
	quo.demand(t, a, turned(b), 0, turned(quotient)+" "+left)
	quo.demand(t, turned(a), turned(b), 0, quotient+" "+turned(left))
}

// demandMod fails, if of whole numbers above nought what is left downward is not as it is written, b being above nought for both signs of a; with the other sign of both it is of the other sign.
func demandMod(t *testing.T, a, b, left, leftBelow string) {
	t.Helper()
	mod.demand(t, a, b, 0, left)
	mod.demand(t, turned(a), b, 0, leftBelow)
	mod.demand(t, turned(a), turned(b), 0, turned(left))
	mod.demand(t, a, turned(b), 0, turned(leftBelow))
}

// P16: less than what is divided by, the same, a multiple of it, one more and one less.
func TestQuoAndMod(t *testing.T) {
	for _, c := range [][5]string{
		{"7", "2", "3", "1", "1"}, {"12", "8", "1", "4", "4"}, {"1", "2", "0", "1", "1"}, {"1", "7", "0", "1", "6"}, {"6", "7", "0", "6", "1"}, {"7", "7", "1", "0", "0"}, {"8", "7", "1", "1", "6"}, {"13", "7", "1", "6", "1"}, {"14", "7", "2", "0", "0"}, {"15", "7", "2", "1", "6"}, {"5", "1", "5", "0", "0"}, {"1", "1", "1", "0", "0"}, {"10", "3", "3", "1", "2"}, {"11", "3", "3", "2", "1"}, {"100", "10", "10", "0", "0"},
		{"0", "1", "0", "0", "0"}, {"0", "5", "0", "0", "0"}, {"0", nines(60), "0", "0", "0"},
		{"1000000000", "999999999", "1", "1", "999999998"}, {"999999999", "1000000000", "0", "999999999", "1"}, {"1000000000000000000", "1000000000", "1000000000", "0", "0"}, {"18446744073709551617", "18446744073709551616", "1", "1", "18446744073709551615"}, {"340282366920938463463374607431768211456", "18446744073709551615", "18446744073709551617", "1", "18446744073709551614"},
		{nines(60), "1", nines(60), "0", "0"}, {nines(60), "2", "4" + nines(59), "1", "1"}, {nines(60), nines(60), "1", "0", "0"}, {nines(60), nines(59) + "8", "1", "1", nines(59) + "7"}, {nines(59) + "8", nines(60), "0", nines(59) + "8", "1"}, {"1", nines(60), "0", "1", nines(59) + "8"}, {nines(60), nines(30), plusOne(tens(30)), "0", "0"}, {nines(60), tens(30), nines(30), nines(30), "1"}, {tens(59), nines(59), "1", "1", nines(58) + "8"}, {tens(59), tens(20), tens(39), "0", "0"}, {tens(59), "7", "14285714285714285714285714285714285714285714285714285714285", "5", "2"},
	} {
		demandDivided(t, c[0], c[1], c[2], c[3])
		demandMod(t, c[0], c[1], c[3], c[4])
	}
}

// One that is not whole is told ahead of nought.
func TestDividingAsksForWholes(t *testing.T) {
	fractions := []string{"1/2", "-1/2", "7/3", over("1", nines(60)), over("-"+nines(60), tens(59))}
	for _, op := range dividings {
		for _, n := range fractions {
			for _, other := range []string{"0", "1", "-7", nines(60), "2/3", n} {
				op.demand(t, n, other, 0, "code 4")
				op.demand(t, other, n, 0, "code 4")
			}
		}
	}
}

func TestQuoAndModByNought(t *testing.T) {
	for _, n := range edgeWholes() {
		for _, op := range []wholeOp{quo, mod} {
			if got := op.do(n, whole("0"), 0); got != (told{code: 2}) {
				t.Errorf("%s of %+v by nought is %+v", op.name, n, got)
			}
		}
	}
}

// demandGcd fails, if what divides both is not as it is written, with all signs and both ways round.
func demandGcd(t *testing.T, a, b, want string) {
	t.Helper()
	for _, pair := range [][2]string{{a, b}, {turned(a), b}, {a, turned(b)}, {turned(a), turned(b)}} {
		gcd.demand(t, pair[0], pair[1], 0, want)
		gcd.demand(t, pair[1], pair[0], 0, want)
	}
}

// P17: nought and another one, nought and nought, and much that both have in common.
func TestGcd(t *testing.T) {
	prime, other := "1000000000000066600000000000001", "1000000007"
	for _, c := range [][3]string{
		{"0", "0", "0"}, {"0", "1", "1"}, {"0", "5", "5"}, {"0", nines(60), nines(60)}, {"0", tens(59), tens(59)},
		{"1", "1", "1"}, {"1", "7", "1"}, {"7", "7", "7"}, {"2", "3", "1"}, {"4", "6", "2"}, {"12", "8", "4"}, {"6", "12", "6"}, {"35", "64", "1"}, {"270", "192", "6"}, {"89", "55", "1"}, {"1000000000", "1000000", "1000000"}, {"1000000000000000000", "1000000007", "1"},
		{prime, prime, prime}, {times(prime, "2"), times(prime, "3"), prime}, {times(prime, "6"), times(prime, "4"), times(prime, "2")}, {times(prime, tens(29)), prime, prime}, {times(prime, other), times(prime, "1000000009"), prime}, {times(prime, other), times(other, "1000000009"), other}, {prime, other, "1"},
		{nines(60), nines(60), nines(60)}, {nines(60), nines(59) + "8", "1"}, {nines(60), nines(30), nines(30)}, {nines(60), nines(40), nines(20)}, {tens(59), nines(60), "1"}, {tens(59), "5" + noughts(59), tens(59)}, {"7" + noughts(59), "3" + noughts(59), tens(59)}, {"6" + noughts(59), "4" + noughts(59), "2" + noughts(59)}, {nines(60), "1", "1"},
	} {
		demandGcd(t, c[0], c[1], c[2])
	}
}

// A number that is not ok, as each of the arguments and as both, is told ahead of all else.
func TestWholesAskForNumbers(t *testing.T) {
	partners := []impl.Num{whole("0"), whole("1"), whole("-1"), num("-1/2"), whole(nines(60)), {}, {Up: "2", Down: "4"}}
	for what, n := range someNumsNotOk() {
		for _, op := range dividings {
			if got := op.do(n, n, 0); got != (told{code: 1}) {
				t.Errorf("%s: %s of it and itself is %+v", what, op.name, got)
			}
			for i, partner := range partners {
				if got := op.do(n, partner, 0); got != (told{code: 1}) {
					t.Errorf("%s: %s of it and partner %d is %+v", what, op.name, i, got)
				}
				if got := op.do(partner, n, 0); got != (told{code: 1}) {
					t.Errorf("%s: %s of partner %d and it is %+v", what, op.name, i, got)
				}
			}
		}
		for way := -1; way <= 6; way++ {
			if got := rounding.do(n, impl.Num{}, way); got != (told{code: 1}) {
				t.Errorf("%s: rounded by the way %d it is %+v", what, way, got)
			}
		}
	}
}

// Each small number and each at the edges by each way, each whole one with each.
func TestWholesOfEachWithEach(t *testing.T) {
	for _, n := range slices.Concat(smallNums(), edgeNums(), someNumsOk()) {
		for way := 0; way <= 5; way++ {
			if code := rounding.hold(t, n, impl.Num{}, way); code == 3 {
				t.Errorf("%+v is too big, by the words, rounded by the way %d", n, way)
			}
		}
	}
	codes := [5]int{}
	for _, a := range edgeWholes() {
		for _, b := range edgeWholes() {
			for _, op := range dividings {
				codes[op.hold(t, a, b, 0)]++
			}
		}
	}
	if codes[0] < 5000 || codes[2] == 0 || codes[1]+codes[3]+codes[4] > 0 {
		t.Errorf("codes have come as often as %v", codes)
	}
}

func TestWholesOfMadePairs(t *testing.T) {
	m := numMaker{formMaker{state: 41}}
	codes := [5]int{}
	for range 6000 {
		a, b := m.wholePair()
		for _, op := range dividings {
			codes[op.hold(t, a, b, 0)]++
		}
		a, b = m.pair()
		for _, op := range dividings {
			codes[op.hold(t, a, b, 0)]++
		}
		for way := impl.NumDownward; way <= impl.NumNearest; way++ {
			rounding.hold(t, a, impl.Num{}, way)
		}
	}
	if codes[0] < 15000 || codes[2] < 50 || codes[4] < 1000 {
		t.Errorf("codes have come as often as %v", codes)
	}
}

// Halves, and what is as close to a half as can be over so much.
func TestRoundOfMadeHalves(t *testing.T) {
	m := numMaker{formMaker{state: 42}}
	for range 3000 {
		half := bigOf(m.digits([]int{1, 9, 10, 29}[m.below(4)]))
		down := new(big.Int).Add(half, half)
		up := new(big.Int).Mul(bigOf(m.digits(29)), down)
		up.Add(up, half).Add(up, big.NewInt(int64(m.below(3)-1)))
		n, ok := numOf(m.below(2) == 0, up, down)
		if !ok {
			t.Fatalf("%v over %v is too big", up, down)
		}
		for way := impl.NumDownward; way <= impl.NumNearest; way++ {
			rounding.hold(t, n, impl.Num{}, way)
		}
	}
}

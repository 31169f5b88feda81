package tests

import (
	"math"
	"math/big"
	"slices"
	"strconv"
	"testing"

	"loop.example/siskin/impl"
)

func TestGreatestPower(t *testing.T) {
	if impl.NumMaxPower != 1000 {
		t.Errorf("the greatest power is %d", impl.NumMaxPower)
	}
}

// demandPower fails, if a power is not as it is written, that of the number with the other sign following from it, and that below nought being one over it.
func demandPower(t *testing.T, a string, k int, want, wantBelow string) {
	t.Helper()
	power.demand(t, a, "0", k, want)
	power.demand(t, a, "0", -k, wantBelow)
	if k%2 != 0 {
		want, wantBelow = turned(want), turned(wantBelow)
	}
	power.demand(t, turned(a), "0", k, want)
	power.demand(t, turned(a), "0", -k, wantBelow)
}

// P18: small powers, of whole numbers and of fractions, above nought and below.
func TestPower(t *testing.T) {
	for _, c := range []struct {
		a               string
		k               int
		want, wantBelow string
	}{
		{"1", 0, "1", "1"}, {"7", 0, "1", "1"}, {"2/3", 0, "1", "1"}, {nines(60), 0, "1", "1"}, {over("1", nines(60)), 0, "1", "1"},
		{"1", 1, "1", "1"}, {"7", 1, "7", "1/7"}, {"2/3", 1, "2/3", "3/2"}, {nines(60), 1, nines(60), over("1", nines(60))}, {over(nines(60), tens(59)), 1, over(nines(60), tens(59)), over(tens(59), nines(60))},
		{"2", 2, "4", "1/4"}, {"2", 3, "8", "1/8"}, {"2", 10, "1024", "1/1024"}, {"2", 64, "18446744073709551616", "1/18446744073709551616"}, {"3", 5, "243", "1/243"}, {"10", 9, "1000000000", "1/1000000000"}, {"999999999", 2, "999999998000000001", "1/999999998000000001"},
		{"2/3", 3, "8/27", "27/8"}, {"1/2", 7, "1/128", "128"}, {"3/2", 4, "81/16", "16/81"}, {"10/7", 5, "100000/16807", "16807/100000"}, {"1000000007/1000000009", 2, "1000000014000000049/1000000018000000081", "1000000018000000081/1000000014000000049"},
		{"1", 2, "1", "1"}, {"1", 999, "1", "1"}, {"1", 1000, "1", "1"},
	} {
		demandPower(t, c.a, c.k, c.want, c.wantBelow)
	}
}

// Nought has powers above nought, one at nought, and none below.
func TestPowerOfNought(t *testing.T) {
	power.demand(t, "0", "0", 0, "1")
	for _, k := range []int{1, 2, 3, 31, 32, 33, 999, 1000} {
		power.demand(t, "0", "0", k, "0")
		power.demand(t, "0", "0", -k, "code 2")
	}
}

// Just as many digits as may be, above and below, and one more.
func TestPowerAtTheLimit(t *testing.T) {
	for _, c := range []struct {
		a     string
		k     int
		isOne bool
	}{
		{"2", 199, true}, {"2", 200, false}, {"3", 125, true}, {"3", 126, false}, {"7", 70, true}, {"7", 71, false}, {"9", 62, true}, {"9", 63, false}, {"10", 59, true}, {"10", 60, false}, {"11", 57, true}, {"11", 58, false}, {"100", 29, true}, {"100", 30, false}, {nines(30), 2, true}, {tens(30), 2, false}, {nines(20), 3, true}, {tens(20), 3, false}, {tens(29), 2, true}, {nines(60), 2, false}, {tens(59), 2, false}, {nines(12), 5, true}, {nines(6), 10, true}, {nines(6), 11, false},
		{"2/3", 125, true}, {"2/3", 126, false}, {"1/2", 199, true}, {"1/2", 200, false}, {"3/2", 125, true}, {"3/2", 126, false}, {over(nines(30), tens(29)), 2, true}, {over(nines(30), tens(30)), 2, false}, {over(tens(29), nines(30)), 2, true}, {over(tens(30), nines(30)), 2, false},
		{"2", 1000, false}, {"2", 999, false}, {"1/2", 1000, false}, {"3/2", 512, false}, {nines(60), 1000, false}, {over("1", nines(60)), 1000, false}, {over(nines(60), nines(59)+"8"), 1000, false},
	} {
		for _, k := range []int{c.k, -c.k} {
			for _, a := range []impl.Num{num(c.a), opposite(num(c.a))} {
				code := power.hold(t, a, impl.Num{}, k)
				if code == 0 != c.isOne || code != 0 && code != 3 {
					t.Errorf("%+v to the power of %d has, by the words, code %d", a, k, code)
				}
			}
		}
	}
}

// Powers past the greatest are told ahead of nought, and of what is too big.
func TestPowerAsksForAPower(t *testing.T) {
	powers := []int{math.MinInt, math.MinInt + 1, -1 << 40, -1<<32 + 1, -1002, -1001, 1001, 1002, 1 << 10, 1 << 20, 1 << 32, 1<<32 + 1, 1 << 40, math.MaxInt - 1, math.MaxInt}
	for _, k := range powers {
		for _, n := range []impl.Num{whole("0"), whole("1"), whole("-1"), num("-2/3"), whole(nines(60)), {}} {
			if got, code := impl.NumPower(n, k); got != (impl.Num{}) || code != 1 {
				t.Errorf("%+v to the power of %d is %+v, %d", n, k, got, code)
			}
		}
	}
}

// A number that is not ok is told ahead of all else.
func TestPowersAskForNumbers(t *testing.T) {
	for what, n := range someNumsNotOk() {
		for _, k := range []int{-1001, -1000, -2, -1, 0, 1, 2, 1000, 1001} {
			if got := power.do(n, impl.Num{}, k); got != (told{code: 1}) {
				t.Errorf("%s: to the power of %d it is %+v", what, k, got)
			}
		}
		if got := root.do(n, impl.Num{}, 0); got != (told{code: 1}) {
			t.Errorf("%s: its root is %+v", what, got)
		}
	}
}

// Each power of small numbers, and some of all sizes.
func TestPowersOfEach(t *testing.T) {
	codes := [5]int{}
	powers := []int{-1001, -1000, -999, -513, -512, -511, 511, 512, 513, 999, 1000, 1001}
	for k := -210; k <= 210; k++ {
		powers = append(powers, k)
	}
	for _, n := range smallNums() {
		for _, k := range powers {
			codes[power.hold(t, n, impl.Num{}, k)]++
		}
	}
	for _, n := range slices.Concat(edgeNums(), someNumsOk()) {
		for _, k := range []int{-1001, -1000, -64, -7, -3, -2, -1, 0, 1, 2, 3, 4, 5, 6, 7, 8, 64, 999, 1000, 1001} {
			codes[power.hold(t, n, impl.Num{}, k)]++
		}
	}
	if codes[0] < 2000 || codes[1] < 100 || codes[2] < 100 || codes[3] < 2000 || codes[4] > 0 {
		t.Errorf("codes have come as often as %v", codes)
	}
}

// Made numbers of so many digits that their power has about as many as may be.
func TestPowersOfMadeNumbers(t *testing.T) {
	m := numMaker{formMaker{state: 51}}
	codes := [5]int{}
	for range 4000 {
		k := 1 + m.below(20)
		n := m.numberUpTo(max(1, 60/k+m.below(3)-1))
		codes[power.hold(t, n, impl.Num{}, k)]++
		codes[power.hold(t, n, impl.Num{}, -k)]++
	}
	if codes[0] < 2000 || codes[2] < 50 || codes[3] < 1000 {
		t.Errorf("codes have come as often as %v", codes)
	}
}

// P18: nought, squares, and one more and one less.
func TestRoot(t *testing.T) {
	for _, c := range [][2]string{
		{"0", "0 0"}, {"1", "1 0"}, {"2", "1 1"}, {"3", "1 2"}, {"4", "2 0"}, {"5", "2 1"}, {"8", "2 4"}, {"9", "3 0"}, {"10", "3 1"}, {"15", "3 6"}, {"16", "4 0"}, {"17", "4 1"}, {"24", "4 8"}, {"25", "5 0"}, {"80", "8 16"}, {"81", "9 0"}, {"99", "9 18"}, {"100", "10 0"}, {"101", "10 1"}, {"9999", "99 198"}, {"10000", "100 0"},
		{"999999999", "31622 49115"}, {"999999998000000001", "999999999 0"}, {"999999998000000000", "999999998 1999999996"}, {"1000000000000000000", "1000000000 0"}, {"1000000000000000001", "1000000000 1"}, {"18446744073709551615", "4294967295 8589934590"}, {"18446744073709551616", "4294967296 0"}, {"18446744073709551617", "4294967296 1"},
		{nines(60), nines(30) + " 1" + nines(29) + "8"}, {squared(nines(30)), nines(30) + " 0"}, {minusOne(squared(nines(30))), nines(29) + "8 1" + nines(29) + "6"}, {plusOne(squared(nines(30))), nines(30) + " 1"}, {tens(58), tens(29) + " 0"}, {plusOne(tens(58)), tens(29) + " 1"}, {nines(58), nines(29) + " 1" + nines(28) + "8"},
		{tens(59), "316227766016837933199889354443 171935168995273342360716159751"},
	} {
		root.demand(t, c[0], "0", 0, c[1])
	}
}

func TestRootAsksForWholesFromNoughtOn(t *testing.T) {
	for _, n := range []string{"-1", "-4", "-" + nines(60), "1/2", "1/4", "9/4", "-1/4", over("1", nines(60)), over(nines(60), tens(59)), over("-1", tens(59))} {
		root.demand(t, n, "0", 0, "code 4")
	}
}

func TestRootsOfEach(t *testing.T) {
	for n := range 5000 {
		root.hold(t, whole(strconv.Itoa(n)), impl.Num{}, 0)
	}
	codes := [5]int{}
	for _, n := range slices.Concat(smallNums(), edgeNums(), someNumsOk(), edgeWholes()) {
		codes[root.hold(t, n, impl.Num{}, 0)]++
	}
	if codes[0] < 100 || codes[4] < 100 || codes[1]+codes[2]+codes[3] > 0 {
		t.Errorf("codes have come as often as %v", codes)
	}
}

// Squares of made numbers of all sizes, with their neighbours.
func TestRootsOfMadeSquares(t *testing.T) {
	m := numMaker{formMaker{state: 52}}
	for range 3000 {
		square := bigOf(squared(m.digits(30)))
		for more := int64(-2); more <= 2; more++ {
			n, ok := wholeOf(new(big.Int).Add(square, big.NewInt(more)))
			if !ok {
				t.Fatalf("%v is too big", square)
			}
			root.hold(t, n, impl.Num{}, 0)
		}
		root.hold(t, whole(m.digits(60)), impl.Num{}, 0)
	}
}

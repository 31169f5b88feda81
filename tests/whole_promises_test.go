package tests

import (
	"math/big"
	"slices"
	"testing"

	"loop.example/siskin/impl"
)

// roundedBy is a number rounded by a way, by which no number is too big.
func roundedBy(t *testing.T, n impl.Num, way int) impl.Num {
	t.Helper()
	got, code := impl.NumRound(n, way)
	if code != 0 || !impl.NumOk(got) || got.Down != "1" {
		t.Fatalf("%+v rounded by the way %d is %+v, %d", n, way, got, code)
	}
	return got
}

// someNums are numbers of all sizes, nought and halves among them.
func someNums() []impl.Num {
	all := slices.Concat(smallNums(), edgeNums(), someNumsOk())
	m := numMaker{formMaker{state: 61}}
	for range 2000 {
		one, other := m.pair()
		half, _ := numOf(m.below(2) == 0, bigOf(m.digits(59)), big.NewInt(2))
		all = append(all, one, other, half)
	}
	return all
}

// P15: each way of rounding keeps to its side, and goes less than one away; the nearest goes at most a half away, and is even if just a half.
func TestRoundKeepsItsSide(t *testing.T) {
	one, half, halves := big.NewRat(1, 1), big.NewRat(1, 2), 0
	for _, n := range someNums() {
		r := ratOf(n)
		downward, upward, inward, nearest := signed(roundedBy(t, n, impl.NumDownward)), signed(roundedBy(t, n, impl.NumUpward)), signed(roundedBy(t, n, impl.NumInward)), signed(roundedBy(t, n, impl.NumNearest))
		if new(big.Rat).SetInt(downward).Cmp(r) > 0 || away(downward, r).Cmp(one) >= 0 {
			t.Errorf("%v is downward %v", r, downward)
		}
		if new(big.Rat).SetInt(upward).Cmp(r) < 0 || away(upward, r).Cmp(one) >= 0 {
			t.Errorf("%v is upward %v", r, upward)
		}
		if inward.Sign()*r.Sign() < 0 || new(big.Rat).Abs(new(big.Rat).SetInt(inward)).Cmp(new(big.Rat).Abs(r)) > 0 || away(inward, r).Cmp(one) >= 0 {
			t.Errorf("%v is inward %v", r, inward)
		}
		order := away(nearest, r).Cmp(half)
		if order > 0 || order == 0 && nearest.Bit(0) == 1 {
			t.Errorf("%v is nearest to %v", r, nearest)
		}
		if order == 0 {
			halves++
		}
	}
	if halves < 500 {
		t.Errorf("only %d were halves", halves)
	}
}

// P15: told by the functions of the field, and the other way round of the number with the other sign.
func TestRoundWithTheField(t *testing.T) {
	for _, n := range someNums() {
		downward, upward := roundedBy(t, n, impl.NumDownward), roundedBy(t, n, impl.NumUpward)
		if impl.NumCmp(downward, n) > 0 || impl.NumCmp(upward, n) < 0 || downward == upward != (n.Down == "1") {
			t.Errorf("%+v lies between %+v and %+v", n, downward, upward)
		}
		if between, code := impl.NumSub(upward, downward); code == 0 && n.Down != "1" && between != whole("1") {
			t.Errorf("between %+v and %+v lies %+v", downward, upward, between)
		}
		inward, outward := downward, upward
		if n.Neg {
			inward, outward = upward, downward
		}
		if got := roundedBy(t, n, impl.NumInward); got != inward {
			t.Errorf("%+v is inward %+v", n, got)
		}
		if got := roundedBy(t, n, impl.NumNearest); got != inward && got != outward {
			t.Errorf("%+v is nearest to %+v", n, got)
		}
		for way, other := range map[int]int{impl.NumDownward: impl.NumUpward, impl.NumUpward: impl.NumDownward, impl.NumInward: impl.NumInward, impl.NumNearest: impl.NumNearest} {
			if got := roundedBy(t, opposite(n), other); got != opposite(roundedBy(t, n, way)) {
				t.Errorf("%+v rounded by the way %d is %+v", opposite(n), other, got)
			}
		}
	}
}

// someWholePairs are pairs of whole numbers, nought among them.
func someWholePairs() [][2]impl.Num {
	var all [][2]impl.Num
	wholes := edgeWholes()
	for i, a := range wholes {
		for k, b := range wholes {
			if i%3 == 0 || k%3 == 0 {
				all = append(all, [2]impl.Num{a, b})
			}
		}
	}
	m := numMaker{formMaker{state: 62}}
	for range 4000 {
		a, b := m.wholePair()
		all = append(all, [2]impl.Num{a, b})
	}
	return all
}

// P16: what NumQuo tells times b, and what is left, are a; what is left has the sign of a, and is less than b, without signs.
func TestQuoIsTakenBack(t *testing.T) {
	for _, pair := range someWholePairs() {
		a, b := pair[0], pair[1]
		quotient, left, code := impl.NumQuo(a, b)
		if b.Up == "0" {
			continue
		}
		product, productCode := impl.NumMul(quotient, b)
		sum, sumCode := impl.NumAdd(product, left)
		if code+productCode+sumCode != 0 || sum != a {
			t.Errorf("%+v by %+v is %+v, and %+v is left, code %d", a, b, quotient, left, code)
		}
		if signed(left).CmpAbs(signed(b)) >= 0 || signOf(left)*signOf(a) < 0 {
			t.Errorf("%+v is left of %+v by %+v", left, a, b)
		}
	}
}

// P16: what NumMod tells has the sign of b, and a less it is a multiple of b.
func TestModLeavesAMultiple(t *testing.T) {
	for _, pair := range someWholePairs() {
		a, b := pair[0], pair[1]
		left, code := impl.NumMod(a, b)
		if b.Up == "0" {
			continue
		}
		if code != 0 || !impl.NumOk(left) || signOf(left)*signOf(b) < 0 || signed(left).CmpAbs(signed(b)) >= 0 {
			t.Fatalf("%+v is left of %+v by %+v downward, code %d", left, a, b, code)
		}
		multiple := new(big.Int).Sub(signed(a), signed(left))
		if new(big.Int).Rem(multiple, signed(b)).Sign() != 0 {
			t.Errorf("%+v is left of %+v by %+v downward", left, a, b)
		}
	}
}

// P16: both are what NumRound tells of NumDiv.
func TestQuoAndModAreRounded(t *testing.T) {
	for _, pair := range someWholePairs() {
		a, b := pair[0], pair[1]
		n, code := impl.NumDiv(a, b)
		if code != 0 {
			continue
		}
		if quotient, _, _ := impl.NumQuo(a, b); quotient != roundedBy(t, n, impl.NumInward) {
			t.Errorf("%+v by %+v is %+v", a, b, quotient)
		}
		multiple := new(big.Int).Mul(signed(roundedBy(t, n, impl.NumDownward)), signed(b))
		if left, _ := impl.NumMod(a, b); signed(left).Cmp(new(big.Int).Sub(signed(a), multiple)) != 0 {
			t.Errorf("%+v is left of %+v by %+v downward", left, a, b)
		}
	}
}

// P17: NumGcd goes both ways, divides both, and what is left of them has none but 1 in common.
func TestGcdDividesBoth(t *testing.T) {
	inCommon := 0
	for _, pair := range someWholePairs() {
		a, b := pair[0], pair[1]
		common, code := impl.NumGcd(a, b)
		again, againCode := impl.NumGcd(b, a)
		if code != 0 || againCode != 0 || common != again || !impl.NumOk(common) || common.Neg {
			t.Fatalf("%+v and %+v have %+v in common, code %d, the other way %+v, %d", a, b, common, code, again, againCode)
		}
		if a.Up == "0" && b.Up == "0" {
			if common != whole("0") {
				t.Errorf("nought and nought have %+v in common", common)
			}
			continue
		}
		one, left, _ := impl.NumQuo(a, common)
		other, otherLeft, _ := impl.NumQuo(b, common)
		if left != whole("0") || otherLeft != whole("0") {
			t.Errorf("%+v and %+v have %+v in common, which leaves %+v and %+v", a, b, common, left, otherLeft)
		}
		if more, code := impl.NumGcd(one, other); more != whole("1") || code != 0 {
			t.Errorf("%+v and %+v have %+v in common, and %+v more", a, b, common, more)
		}
		if len(common.Up) > 20 && a != b {
			inCommon++
		}
	}
	if inCommon < 200 {
		t.Errorf("only %d had much in common", inCommon)
	}
}

// P18: a power above nought is the one of once less, times the number; that below nought is one over it.
func TestPowerIsOnceMore(t *testing.T) {
	steps, turns := 0, 0
	for _, n := range someNums() {
		for k := 1; k <= impl.NumMaxPower; k++ {
			got, code := impl.NumPower(n, k)
			if code != 0 || k > 300 {
				break
			}
			less, lessCode := impl.NumPower(n, k-1)
			product, productCode := impl.NumMul(less, n)
			if lessCode+productCode != 0 || product != got {
				t.Errorf("%+v to the power of %d is %+v, and %+v to that of %d", n, k, got, less, k-1)
			}
			steps++
			if n.Up == "0" {
				continue
			}
			below, belowCode := impl.NumPower(n, -k)
			both, bothCode := impl.NumMul(got, below)
			if belowCode+bothCode != 0 || both != whole("1") {
				t.Errorf("%+v to the power of %d is %+v, and to that of %d %+v, code %d", n, k, got, -k, below, belowCode)
			}
			turns++
		}
	}
	if steps < 5000 || turns < 5000 {
		t.Errorf("only %d powers were once more, %d turned over", steps, turns)
	}
}

// P18: the root's square, and what is left, are the number; the square of the next one is above.
func TestRootIsTheGreatest(t *testing.T) {
	for _, pair := range someWholePairs() {
		n := pair[0]
		if n.Neg {
			continue
		}
		got, left, code := impl.NumRoot(n)
		square, squareCode := impl.NumMul(got, got)
		sum, sumCode := impl.NumAdd(square, left)
		if code+squareCode+sumCode != 0 || sum != n || left.Neg || got.Neg || impl.NumCmp(square, n) > 0 {
			t.Errorf("the root of %+v is %+v, and %+v is left, code %d", n, got, left, code)
		}
		if next := squared(plusOne(got.Up)); bigOf(next).Cmp(signed(n)) <= 0 {
			t.Errorf("the root of %+v is %+v, and the next one's square not above", n, got)
		}
	}
}

// Each answer without a code is ok, with a code nothing.
func TestWholeAnswersAreOk(t *testing.T) {
	m := numMaker{formMaker{state: 63}}
	for range 3000 {
		a, b := m.wholePair()
		if m.below(3) == 0 {
			a, b = m.pair()
		}
		k := m.below(80) - 40
		for _, op := range wholeOps {
			for _, of := range []int{k, 1 + m.below(4)} {
				got := op.do(a, b, of)
				two := op.name == quo.name || op.name == root.name
				if impl.NumOk(got.one) != (got.code == 0) || impl.NumOk(got.other) != (got.code == 0 && two) || got.code != 0 && got != (told{code: got.code}) {
					t.Errorf("%s of %+v, %+v and %d is %+v", op.name, a, b, of, got)
				}
			}
		}
	}
}

// An answer has nothing of the memory of what was handed in, and what was handed in is as it was.
func TestWholesShareNoMemory(t *testing.T) {
	numbers := []impl.Num{whole("0"), whole("1"), num("-7"), num("7/2"), num("-12345"), whole(nines(60)), num(over("1", nines(60)))}
	for _, a := range numbers {
		for _, b := range numbers {
			for _, op := range wholeOps {
				for _, k := range []int{-1, 1, 2, 3, 4} {
					o := overwritten{}
					one := impl.Num{Neg: a.Neg, Up: o.lend(a.Up), Down: o.lend(a.Down)}
					other := impl.Num{Neg: b.Neg, Up: o.lend(b.Up), Down: o.lend(b.Down)}
					got := op.do(one, other, k)
					if one != a || other != b {
						t.Errorf("%s leaves %+v and %+v as %+v and %+v", op.name, a, b, one, other)
					}
					o.overwrite()
					if want := op.want(a, b, k); got != want {
						t.Errorf("%s of %+v, %+v and %d is %+v, in memory that was handed in", op.name, a, b, k, got)
					}
				}
			}
		}
	}
}

// Nothing is kept: the same is answered again, whatever was asked in between.
func TestWholesAreTheSameAgain(t *testing.T) {
	pairs := someWholePairs()
	answers := func() []told {
		var all []told
		for i, pair := range pairs {
			for _, op := range wholeOps {
				all = append(all, op.do(pair[0], pair[1], i%9-2))
			}
		}
		return all
	}
	first := answers()
	slices.Reverse(pairs)
	for _, pair := range pairs {
		for _, op := range wholeOps {
			op.do(pair[1], pair[0], 2)
		}
	}
	slices.Reverse(pairs)
	if !slices.Equal(first, answers()) {
		t.Error("another time something else is answered")
	}
}

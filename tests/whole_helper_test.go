package tests

import (
	"math/big"
	"strings"
	"testing"

	"loop.example/siskin/impl"
)

// told is what one of the functions over whole numbers, powers and roots tells.
type told struct {
	one   impl.Num
	other impl.Num
	code  int
}

// wholeOp is one of these functions, and what the words of the document ask of it. Each takes what it needs of two numbers and an int.
type wholeOp struct {
	name string
	do   func(a, b impl.Num, k int) told
	want func(a, b impl.Num, k int) told
}

var (
	rounding = wholeOp{"NumRound", func(a, _ impl.Num, way int) told {
		n, code := impl.NumRound(a, way)
		return told{one: n, code: code}
	}, wantRound}
	quo = wholeOp{"NumQuo", func(a, b impl.Num, _ int) told {
		quotient, left, code := impl.NumQuo(a, b)
		return told{quotient, left, code}
	}, wantQuo}
	mod = wholeOp{"NumMod", func(a, b impl.Num, _ int) told {
		left, code := impl.NumMod(a, b)
		return told{one: left, code: code}
	}, wantMod}
	gcd = wholeOp{"NumGcd", func(a, b impl.Num, _ int) told {
		n, code := impl.NumGcd(a, b)
		return told{one: n, code: code}
	}, wantGcd}
	power = wholeOp{"NumPower", func(a, _ impl.Num, k int) told {
		n, code := impl.NumPower(a, k)
		return told{one: n, code: code}
	}, wantPower}
	root = wholeOp{"NumRoot", func(a, _ impl.Num, _ int) told {
		n, left, code := impl.NumRoot(a)
		return told{n, left, code}
	}, wantRoot}
	dividings = []wholeOp{quo, mod, gcd}
	wholeOps  = []wholeOp{rounding, quo, mod, gcd, power, root}
)

// hold fails, if a function does not tell what the words of the document ask; it tells the code that they ask.
func (op wholeOp) hold(t *testing.T, a, b impl.Num, k int) int {
	t.Helper()
	want := op.want(a, b, k)
	if got := op.do(a, b, k); got != want {
		t.Errorf("%s of %+v, %+v and %d is %+v, and not %+v", op.name, a, b, k, got, want)
	}
	return want.code
}

// demand fails, if a function does not tell one or two numbers that are written, or nothing and a code that is written; or if the words of the document do not ask for that.
func (op wholeOp) demand(t *testing.T, a, b string, k int, written string) {
	t.Helper()
	want := told{}
	one, other, two := strings.Cut(written, " ")
	switch {
	case one == "code":
		want.code = int(other[0] - '0')
	case two:
		want.one, want.other = num(one), num(other)
	default:
		want.one = num(one)
	}
	if got := op.do(num(a), num(b), k); got != want {
		t.Errorf("%s of %s, %s and %d is %+v, and not %s", op.name, a, b, k, got, written)
	}
	if got := op.want(num(a), num(b), k); got != want {
		t.Errorf("%s of %s, %s and %d is, by the words, %+v, and not %s", op.name, a, b, k, got, written)
	}
}

// signed is a whole number with its sign.
func signed(n impl.Num) *big.Int {
	if n.Down != "1" {
		panic(n.Up + "/" + n.Down + " is not whole")
	}
	return ratOf(n).Num()
}

// wholeOf is a whole number of any sign; nothing, if it is too big.
func wholeOf(n *big.Int) (impl.Num, bool) {
	return numOf(n.Sign() < 0, new(big.Int).Abs(n), big.NewInt(1))
}

// toldWholes are whole numbers as they are told.
func toldWholes(one *big.Int, more ...*big.Int) told {
	all := told{}
	ok, otherOk := false, true
	all.one, ok = wholeOf(one)
	for _, n := range more {
		all.other, otherOk = wholeOf(n)
	}
	if !ok || !otherOk {
		return told{code: 3}
	}
	return all
}

// beside are the greatest whole number that is not above, and the least that is not below.
func beside(r *big.Rat) (*big.Int, *big.Int) {
	downward := new(big.Int).Quo(r.Num(), r.Denom())
	for new(big.Rat).SetInt(downward).Cmp(r) > 0 {
		downward.Sub(downward, big.NewInt(1))
	}
	upward := new(big.Int).Set(downward)
	for new(big.Rat).SetInt(upward).Cmp(r) < 0 {
		upward.Add(upward, big.NewInt(1))
	}
	return downward, upward
}

// away is how far a whole number is from a number, without a sign.
func away(whole *big.Int, r *big.Rat) *big.Rat {
	far := new(big.Rat).SetInt(whole)
	return far.Abs(far.Sub(far, r))
}

// wantRound is NumRound by the words of the document.
func wantRound(n, _ impl.Num, way int) told {
	if !wantNumOk(n) || way != impl.NumDownward && way != impl.NumUpward && way != impl.NumInward && way != impl.NumNearest {
		return told{code: 1}
	}
	r := ratOf(n)
	downward, upward := beside(r)
	order := 0 // below nought the one downward is taken
	switch way {
	case impl.NumDownward:
		order = -1
	case impl.NumUpward:
		order = 1
	case impl.NumInward:
		order = downward.CmpAbs(upward)
	case impl.NumNearest:
		order = away(downward, r).Cmp(away(upward, r))
		if order == 0 && downward.Bit(0) == 1 {
			order = 1
		}
	}
	if order > 0 {
		return toldWholes(upward)
	}
	return toldWholes(downward)
}

// wantWholes is the code that functions over two whole numbers have of these.
func wantWholes(a, b impl.Num) int {
	if !wantNumOk(a) || !wantNumOk(b) {
		return 1
	}
	if a.Down != "1" || b.Down != "1" {
		return 4
	}
	return 0
}

// wantQuo is NumQuo by the words of the document.
func wantQuo(a, b impl.Num, _ int) told {
	if code := wantWholes(a, b); code != 0 {
		return told{code: code}
	}
	if b.Up == "0" {
		return told{code: 2}
	}
	return toldWholes(new(big.Int).Quo(signed(a), signed(b)), new(big.Int).Rem(signed(a), signed(b)))
}

// wantMod is NumMod by the words of the document.
func wantMod(a, b impl.Num, _ int) told {
	if code := wantWholes(a, b); code != 0 {
		return told{code: code}
	}
	if b.Up == "0" {
		return told{code: 2}
	}
	times, _ := beside(new(big.Rat).SetFrac(signed(a), signed(b)))
	return toldWholes(new(big.Int).Sub(signed(a), times.Mul(times, signed(b))))
}

// wantGcd is NumGcd by the words of the document.
func wantGcd(a, b impl.Num, _ int) told {
	if code := wantWholes(a, b); code != 0 {
		return told{code: code}
	}
	return toldWholes(new(big.Int).GCD(nil, nil, bigOf(a.Up), bigOf(b.Up)))
}

// wantPower is NumPower by the words of the document: it multiplies so many times, until it is too big.
func wantPower(a, _ impl.Num, k int) told {
	if !wantNumOk(a) || k < -1000 || k > 1000 {
		return told{code: 1}
	}
	if a.Up == "0" && k < 0 {
		return told{code: 2}
	}
	up, down := big.NewInt(1), big.NewInt(1)
	for range max(k, -k) {
		up.Mul(up, bigOf(a.Up))
		down.Mul(down, bigOf(a.Down))
		if len(up.String()) > 60 || len(down.String()) > 60 {
			return told{code: 3}
		}
	}
	if k < 0 {
		up, down = down, up
	}
	n, ok := numOf(a.Neg && k%2 != 0, up, down)
	if !ok {
		return told{code: 3}
	}
	return told{one: n}
}

// wantRoot is NumRoot by the words of the document.
func wantRoot(a, _ impl.Num, _ int) told {
	if !wantNumOk(a) {
		return told{code: 1}
	}
	if a.Down != "1" || a.Neg {
		return told{code: 4}
	}
	n := new(big.Int).Sqrt(signed(a))
	return toldWholes(n, new(big.Int).Sub(signed(a), new(big.Int).Mul(n, n)))
}

// squared is the square of what decimal digits tell, written.
func squared(digits string) string {
	return times(digits, digits)
}

// minusOne is one less than what decimal digits tell.
func minusOne(digits string) string {
	return new(big.Int).Sub(bigOf(digits), big.NewInt(1)).String()
}

// wholePair are two whole numbers of both signs, often one a multiple of the other one, or close to one, or both of one.
func (m *numMaker) wholePair() (impl.Num, impl.Num) {
	one, other := bigOf(m.digits([]int{2, 10, 20, 40, 60}[m.below(5)])), bigOf(m.digits([]int{2, 10, 20, 40, 60}[m.below(5)]))
	switch m.below(7) {
	case 0:
		one = new(big.Int).Mul(other, bigOf(m.digits(60)))
	case 1:
		one = new(big.Int).Mul(other, bigOf(m.digits(20)))
		one.Add(one, big.NewInt(int64(m.below(3)-1)))
	case 2:
		common := bigOf(m.digits(40))
		one, other = new(big.Int).Mul(common, bigOf(m.digits(20))), new(big.Int).Mul(common, bigOf(m.digits(20)))
	case 3:
		one = new(big.Int).Add(other, big.NewInt(int64(m.below(3)-1)))
	case 4:
		one = big.NewInt(int64(m.below(3)))
	}
	limit := bigOf(tens(60))
	a, _ := numOf(m.below(2) == 0, one.Mod(one, limit), big.NewInt(1))
	b, _ := numOf(m.below(2) == 0, other.Mod(other, limit), big.NewInt(1))
	return a, b
}

// edgeWholes are the whole ones of the numbers at the edges, and small ones.
func edgeWholes() []impl.Num {
	var all []impl.Num
	for _, n := range edgeNums() {
		if n.Down == "1" {
			all = append(all, n)
		}
	}
	for i := -25; i <= 25; i++ {
		n, _ := wholeOf(big.NewInt(int64(i)))
		all = append(all, n)
	}
	return all
}

package tests

import (
	"maps"
	"math/big"
	"slices"
	"strings"
	"testing"

	"loop.example/siskin/impl"
)

// fieldOp is one of the functions that make a number of two, and what the words of the document ask of it.
type fieldOp struct {
	name string
	do   func(a, b impl.Num) (impl.Num, int)
	want func(r, a, b *big.Rat) *big.Rat
}

var (
	adding      = fieldOp{"NumAdd", impl.NumAdd, (*big.Rat).Add}
	taking      = fieldOp{"NumSub", impl.NumSub, (*big.Rat).Sub}
	multiplying = fieldOp{"NumMul", impl.NumMul, (*big.Rat).Mul}
	dividing    = fieldOp{"NumDiv", impl.NumDiv, (*big.Rat).Quo}
	fieldOps    = []fieldOp{adding, taking, multiplying, dividing}
)

// num is a number that is written in lowest terms.
func num(text string) impl.Num {
	unsigned, neg := strings.CutPrefix(text, "-")
	up, down, has := strings.Cut(unsigned, "/")
	if !has {
		down = "1"
	}
	return impl.Num{Neg: neg, Up: up, Down: down}
}

// over is digits over digits, written.
func over(up, down string) string {
	return up + "/" + down
}

// tens is 1 with so many noughts behind it, written.
func tens(many int) string {
	return "1" + noughts(many)
}

// plusOne is one more than what decimal digits tell.
func plusOne(digits string) string {
	return new(big.Int).Add(bigOf(digits), big.NewInt(1)).String()
}

func opposite(n impl.Num) impl.Num {
	n.Neg = !n.Neg && n.Up != "0"
	return n
}

func signOf(n impl.Num) int {
	return ratOf(n).Sign()
}

// wantField is what an operation must answer, by the words of the document.
func (op fieldOp) wantField(a, b impl.Num) (impl.Num, int) {
	if !wantNumOk(a) || !wantNumOk(b) {
		return impl.Num{}, 1
	}
	if op.name == dividing.name && b.Up == "0" {
		return impl.Num{}, 2
	}
	r := op.want(new(big.Rat), ratOf(a), ratOf(b))
	n, ok := numOf(r.Sign() < 0, new(big.Int).Abs(r.Num()), r.Denom())
	if !ok {
		return impl.Num{}, 3
	}
	return n, 0
}

// hold fails, if an operation does not answer what the words of the document ask; it tells the code that they ask.
func (op fieldOp) hold(t *testing.T, a, b impl.Num) int {
	t.Helper()
	n, code := op.do(a, b)
	want, wantCode := op.wantField(a, b)
	if n != want || code != wantCode {
		t.Errorf("%s of %+v and %+v is %+v, %d, and not %+v, %d", op.name, a, b, n, code, want, wantCode)
	}
	return wantCode
}

// demand fails, if an operation does not answer a number that is written in lowest terms and code 0, or nothing and a code that is written; or if the words of the document do not ask for that.
func (op fieldOp) demand(t *testing.T, a, b, want string) {
	t.Helper()
	wantNum, wantCode := num(want), 0
	if code, has := strings.CutPrefix(want, "code "); has {
		wantNum, wantCode = impl.Num{}, int(code[0]-'0')
	}
	if n, code := op.do(num(a), num(b)); n != wantNum || code != wantCode {
		t.Errorf("%s of %s and %s is %+v, %d, and not %s", op.name, a, b, n, code, want)
	}
	if n, code := op.wantField(num(a), num(b)); n != wantNum || code != wantCode {
		t.Errorf("%s of %s and %s is, by the words, %+v, %d, and not %s", op.name, a, b, n, code, want)
	}
}

// turned is a written number with the other sign; nought and a code have none.
func turned(text string) string {
	if unsigned, has := strings.CutPrefix(text, "-"); has {
		return unsigned
	}
	if text == "0" || strings.HasPrefix(text, "code ") {
		return text
	}
	return "-" + text
}

// demandSums fails, if a sum is not told as it is written, both ways and with both signs, and as what is left of a number.
func demandSums(t *testing.T, a, b, want string) {
	t.Helper()
	adding.demand(t, a, b, want)
	adding.demand(t, b, a, want)
	adding.demand(t, turned(a), turned(b), turned(want))
	adding.demand(t, turned(b), turned(a), turned(want))
	taking.demand(t, a, turned(b), want)
	taking.demand(t, b, turned(a), want)
	taking.demand(t, turned(a), b, turned(want))
	taking.demand(t, turned(b), a, turned(want))
}

// demandSigns fails, if an operation by which each sign turns the answer's does not answer what is written, with signs of all four kinds.
func (op fieldOp) demandSigns(t *testing.T, a, b, want string) {
	t.Helper()
	op.demand(t, a, b, want)
	op.demand(t, turned(a), b, turned(want))
	op.demand(t, a, turned(b), turned(want))
	op.demand(t, turned(a), turned(b), want)
}

// wantCmp is NumCmp by the words of the document.
func wantCmp(a, b impl.Num) int {
	if !wantNumOk(a) || !wantNumOk(b) {
		return 0
	}
	return ratOf(a).Cmp(ratOf(b))
}

// demandCmp fails, if two numbers, as they are written, are not compared so, and the other way round both ways; also with their signs turned.
func demandCmp(t *testing.T, a, b string, want int) {
	t.Helper()
	one, other := num(a), num(b)
	for _, c := range []struct {
		a, b impl.Num
		want int
	}{{one, other, want}, {other, one, -want}, {opposite(one), opposite(other), -want}, {opposite(other), opposite(one), want}} {
		if got := impl.NumCmp(c.a, c.b); got != c.want || wantCmp(c.a, c.b) != c.want {
			t.Errorf("%+v and %+v are compared as %d, by the words %d, and not %d", c.a, c.b, got, wantCmp(c.a, c.b), c.want)
		}
	}
}

// smallNums are small numbers of both signs, nought among them.
func smallNums() []impl.Num {
	all := map[impl.Num]bool{}
	for up := range int64(8) {
		for down := int64(1); down < 8; down++ {
			n, _ := numOf(false, big.NewInt(up), big.NewInt(down))
			all[n], all[opposite(n)] = true, true
		}
	}
	return slices.SortedFunc(maps.Keys(all), func(a, b impl.Num) int { return ratOf(a).Cmp(ratOf(b)) })
}

// edgeNums are numbers at which a digit is one too many, or a group of digits or a word ends, with their neighbours, as whole ones and below.
func edgeNums() []impl.Num {
	all := []impl.Num{{Up: "1", Down: "2"}, {Up: "2", Down: "3"}}
	for _, digits := range []string{"1", "2", "3", "4294967295", "4294967296", "9223372036854775807", "9223372036854775808", "18446744073709551615", "18446744073709551616", "340282366920938463463374607431768211456"} {
		all = append(all, whole(digits))
	}
	for _, many := range []int{8, 9, 10, 17, 18, 19, 27, 30, 36, 45, 54, 58, 59} {
		all = append(all, whole(nines(many)), whole(tens(many)), whole(plusOne(tens(many))), num(over(nines(many), tens(many))), num(over("1", tens(many))), num(over("1", nines(many))))
	}
	all = append(all, whole(nines(60)), num(over("1", nines(60))), num(over(nines(60), nines(59)+"8")), num(over(nines(59)+"8", nines(60))))
	for _, n := range all {
		all = append(all, opposite(n))
	}
	return append(all, whole("0"))
}

// pair are two numbers, often with much in common, so that what is too big goes away in lowest terms.
func (m *numMaker) pair() (impl.Num, impl.Num) {
	one := m.numberUpTo([]int{3, 12, 20, 30, 60}[m.below(5)])
	other := m.numberUpTo([]int{3, 12, 20, 30, 60}[m.below(5)])
	neg := m.below(2) == 0
	switch m.below(8) {
	case 0:
		other, _ = numOf(neg, bigOf(m.digits(60)), bigOf(one.Down))
	case 1:
		other, _ = numOf(neg, bigOf(one.Down), bigOf(m.digits(60)))
	case 2:
		common := bigOf(m.digits(40))
		one, _ = numOf(neg, bigOf(m.digits(50)), new(big.Int).Mul(common, bigOf(m.digits(10))))
		other, _ = numOf(!neg, bigOf(m.digits(50)), new(big.Int).Mul(common, bigOf(m.digits(10))))
	case 3:
		common := bigOf(m.digits(40))
		one, _ = numOf(neg, new(big.Int).Mul(common, bigOf(m.digits(10))), bigOf(m.digits(20)))
		other, _ = numOf(!neg, bigOf(m.digits(20)), new(big.Int).Mul(common, bigOf(m.digits(10))))
	case 4:
		other = one
		if neg {
			other = opposite(one)
		}
	}
	return one, other
}

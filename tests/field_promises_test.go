package tests

import (
	"math/big"
	"slices"
	"testing"

	"loop.example/siskin/impl"
)

// chain does operations one behind the other, and notes if something was too big.
type chain struct {
	t      *testing.T
	tooBig bool
}

func (c *chain) do(op fieldOp, a, b impl.Num) impl.Num {
	c.t.Helper()
	if c.tooBig {
		return impl.Num{}
	}
	n, code := op.do(a, b)
	if code != 0 && code != 3 {
		c.t.Errorf("%s of %+v and %+v has code %d", op.name, a, b, code)
	}
	c.tooBig = code != 0
	return n
}

func (c *chain) add(a, b impl.Num) impl.Num {
	c.t.Helper()
	return c.do(adding, a, b)
}

func (c *chain) mul(a, b impl.Num) impl.Num {
	c.t.Helper()
	return c.do(multiplying, a, b)
}

// same fails, if two ways to go come to different numbers; it tells whether nothing was too big.
func (c *chain) same(law string, one, other impl.Num, of ...impl.Num) bool {
	c.t.Helper()
	if !c.tooBig && one != other {
		c.t.Errorf("%s: of %+v come %+v and %+v", law, of, one, other)
	}
	return !c.tooBig
}

// someTriples are three numbers each: all of some few small ones, and made ones of all sizes.
func someTriples() [][3]impl.Num {
	var all [][3]impl.Num
	few := []impl.Num{whole("0"), whole("1"), num("-1"), num("2"), num("-3"), num("1/2"), num("-1/2"), num("2/3"), num("-3/4"), num("5/6")}
	for _, a := range few {
		for _, b := range few {
			for _, c := range few {
				all = append(all, [3]impl.Num{a, b, c})
			}
		}
	}
	m := numMaker{formMaker{state: 33}}
	for range 3000 {
		a, b := m.pair()
		all = append(all, [3]impl.Num{a, b, m.numberUpTo([]int{2, 9, 15, 60}[m.below(4)])})
	}
	for range 2000 {
		most := []int{4, 9, 12, 15}[m.below(4)]
		all = append(all, [3]impl.Num{m.numberUpTo(most), m.numberUpTo(most), m.numberUpTo(most)})
	}
	return all
}

// P10: adding and multiplying go both ways, also in what is too big.
func TestFieldGoesBothWays(t *testing.T) {
	for _, n := range someTriples() {
		for _, op := range []fieldOp{adding, multiplying} {
			one, code := op.do(n[0], n[1])
			other, otherCode := op.do(n[1], n[0])
			if one != other || code != otherCode {
				t.Errorf("%s of %+v and %+v is %+v, %d, the other way %+v, %d", op.name, n[0], n[1], one, code, other, otherCode)
			}
		}
	}
}

// P10: adding and multiplying go one behind the other, and across.
func TestFieldGoesOneBehindTheOther(t *testing.T) {
	held := [3]int{}
	for _, n := range someTriples() {
		a, b, c := n[0], n[1], n[2]
		for i, op := range []fieldOp{adding, multiplying} {
			way := &chain{t: t}
			if way.same(op.name+" one behind the other", way.do(op, way.do(op, a, b), c), way.do(op, a, way.do(op, b, c)), a, b, c) {
				held[i]++
			}
		}
		way := &chain{t: t}
		if way.same("across", way.mul(a, way.add(b, c)), way.add(way.mul(a, b), way.mul(a, c)), a, b, c) {
			held[2]++
		}
	}
	for _, many := range held {
		if many < 2000 {
			t.Errorf("nothing was too big as often as %v", held)
		}
	}
}

// P10: nought and one change nothing; what was added is taken back; a number that is not nought by itself is 1.
func TestFieldTakesBack(t *testing.T) {
	nought, one, back := whole("0"), whole("1"), 0
	for _, n := range someTriples() {
		a, b := n[0], n[1]
		for _, c := range []struct {
			op         fieldOp
			a, b, want impl.Num
		}{{adding, a, nought, a}, {adding, nought, a, a}, {taking, a, nought, a}, {taking, nought, a, opposite(a)}, {multiplying, a, one, a}, {multiplying, one, a, a}, {dividing, a, one, a}, {multiplying, a, nought, nought}, {multiplying, nought, a, nought}} {
			if got, code := c.op.do(c.a, c.b); got != c.want || code != 0 {
				t.Errorf("%s of %+v and %+v is %+v, %d, and not %+v", c.op.name, c.a, c.b, got, code, c.want)
			}
		}
		if got, code := impl.NumDiv(a, a); a != nought && (got != one || code != 0) {
			t.Errorf("%+v by itself is %+v, %d", a, got, code)
		}
		way := &chain{t: t}
		if way.same("what was added", way.do(taking, way.add(a, b), b), a, a, b) {
			back++
		}
		if b != nought {
			way = &chain{t: t}
			way.same("what was multiplied", way.do(dividing, way.mul(a, b), b), a, a, b)
		}
	}
	if back < 2000 {
		t.Errorf("only %d were taken back", back)
	}
}

// P11: each answer without a code is ok, with a code nothing.
func TestFieldAnswersAreOk(t *testing.T) {
	for _, n := range someTriples() {
		for _, op := range fieldOps {
			got, code := op.do(n[0], n[1])
			if impl.NumOk(got) != (code == 0) || code != 0 && got != (impl.Num{}) {
				t.Errorf("%s of %+v and %+v is %+v, %d, ok: %v", op.name, n[0], n[1], got, code, impl.NumOk(got))
			}
		}
	}
}

// P11: of each number there is one: whatever way it came, and just if NumCmp tells that it is the same.
func TestFieldHasOneOfEachNumber(t *testing.T) {
	ways := map[string]impl.Num{}
	for _, a := range smallNums() {
		for _, b := range smallNums() {
			for _, op := range fieldOps {
				got, code := op.do(a, b)
				if code != 0 {
					continue
				}
				worth := op.want(new(big.Rat), ratOf(a), ratOf(b)).RatString()
				if known, has := ways[worth]; has && known != got {
					t.Errorf("%s is %+v and %+v", worth, known, got)
				}
				ways[worth] = got
			}
			if (impl.NumCmp(a, b) == 0) != (a == b) {
				t.Errorf("%+v and %+v are compared as %d", a, b, impl.NumCmp(a, b))
			}
		}
	}
}

// P12: of any two numbers one is less, the same, or more, the other way round from the other one.
func TestCmpIsAnOrder(t *testing.T) {
	for _, n := range someTriples() {
		a, b, c := n[0], n[1], n[2]
		order := impl.NumCmp(a, b)
		if order < -1 || order > 1 || order != -impl.NumCmp(b, a) || (order == 0) != (a == b) || impl.NumCmp(a, a) != 0 {
			t.Errorf("%+v and %+v are compared as %d, the other way %d", a, b, order, impl.NumCmp(b, a))
		}
		if order <= 0 && impl.NumCmp(b, c) <= 0 && impl.NumCmp(a, c) > 0 {
			t.Errorf("%+v, %+v and %+v stand in a ring", a, b, c)
		}
	}
}

// P12: numbers put in order by NumCmp are in order by what they are worth.
func TestCmpPutsInOrder(t *testing.T) {
	numbers := slices.Concat(edgeNums(), smallNums(), someNumsOk())
	slices.SortFunc(numbers, impl.NumCmp)
	for i := 1; i < len(numbers); i++ {
		if ratOf(numbers[i-1]).Cmp(ratOf(numbers[i])) > 0 {
			t.Errorf("%+v stands ahead of %+v", numbers[i-1], numbers[i])
		}
	}
}

// P12: what is added to both leaves the order, what is multiplied leaves it, or turns it around, by its sign.
func TestOrderAndField(t *testing.T) {
	added, multiplied := 0, map[int]int{}
	for _, n := range someTriples() {
		a, b, c := n[0], n[1], n[2]
		order := impl.NumCmp(a, b)
		way := &chain{t: t}
		one, other := way.add(a, c), way.add(b, c)
		if !way.tooBig {
			added++
			if got := impl.NumCmp(one, other); got != order {
				t.Errorf("%+v and %+v are compared as %d, with %+v added as %d", a, b, order, c, got)
			}
		}
		way = &chain{t: t}
		one, other = way.mul(a, c), way.mul(b, c)
		if !way.tooBig {
			multiplied[signOf(c)]++
			if got := impl.NumCmp(one, other); got != order*signOf(c) {
				t.Errorf("%+v and %+v are compared as %d, times %+v as %d", a, b, order, c, got)
			}
		}
	}
	if added < 2000 || multiplied[-1] < 1000 || multiplied[0] < 100 || multiplied[1] < 1000 {
		t.Errorf("only %d were added, %v multiplied", added, multiplied)
	}
}

// P12: NumSub tells the order by its sign.
func TestSubTellsTheOrder(t *testing.T) {
	told := map[int]int{}
	for _, n := range someTriples() {
		left, code := impl.NumSub(n[0], n[1])
		if code != 0 {
			continue
		}
		order := impl.NumCmp(n[0], n[1])
		told[order]++
		if signOf(left) != order || impl.NumCmp(left, whole("0")) != order {
			t.Errorf("%+v and %+v are compared as %d, and %+v is left", n[0], n[1], order, left)
		}
	}
	if told[-1] < 1000 || told[0] < 100 || told[1] < 1000 {
		t.Errorf("only %v were told", told)
	}
}

// Nothing is kept: the same is answered again, whatever was asked in between.
func TestFieldIsTheSameAgain(t *testing.T) {
	type answer struct {
		n    impl.Num
		code int
	}
	triples := someTriples()
	answers := func() []answer {
		var all []answer
		for _, n := range triples {
			for _, op := range fieldOps {
				got, code := op.do(n[0], n[1])
				all = append(all, answer{got, code})
			}
			all = append(all, answer{code: impl.NumCmp(n[0], n[1])})
		}
		return all
	}
	first := answers()
	slices.Reverse(triples)
	answers()
	slices.Reverse(triples)
	if !slices.Equal(first, answers()) {
		t.Error("another time something else is answered")
	}
}

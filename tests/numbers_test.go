package tests

import (
	"math"
	"math/big"
	"strconv"
	"strings"
	"testing"

	"loop.example/siskin/impl"
)

func TestNumMaxDigits(t *testing.T) {
	if impl.NumMaxDigits != 60 {
		t.Errorf("a number has up to %d digits, and not 60", impl.NumMaxDigits)
	}
}

func TestNumOk(t *testing.T) {
	for _, n := range someNumsOk() {
		if !impl.NumOk(n) || !wantNumOk(n) {
			t.Errorf("%+v is not ok: %v, by the words %v", n, impl.NumOk(n), wantNumOk(n))
		}
	}
}

func TestNumOkRefuses(t *testing.T) {
	for what, n := range someNumsNotOk() {
		if impl.NumOk(n) || wantNumOk(n) {
			t.Errorf("%s: %+v is ok: %v, by the words %v", what, n, impl.NumOk(n), wantNumOk(n))
		}
	}
}

// Small numbers, each over each.
func TestNumOkOfEachOverEach(t *testing.T) {
	for up := range 70 {
		for down := range 70 {
			for _, neg := range []bool{false, true} {
				n := impl.Num{Neg: neg, Up: strconv.Itoa(up), Down: strconv.Itoa(down)}
				if impl.NumOk(n) != wantNumOk(n) {
					t.Errorf("%+v is ok: %v", n, impl.NumOk(n))
				}
			}
		}
	}
}

func TestNumOkOfMadeNumbers(t *testing.T) {
	m := numMaker{formMaker{state: 3}}
	refused := 0
	for range 4000 {
		common := m.digits(1 + m.below(40))
		n := impl.Num{Neg: m.below(2) == 0, Up: times(m.digits(1+m.below(40)), common), Down: times(m.digits(1+m.below(40)), common)}
		if m.below(2) == 0 {
			n.Up = m.digits(61)
		}
		if impl.NumOk(n) != wantNumOk(n) {
			t.Errorf("%+v is ok: %v", n, impl.NumOk(n))
		}
		if !wantNumOk(n) {
			refused++
		}
	}
	if refused < 500 || refused > 3500 {
		t.Errorf("%d of the made numbers are not ok", refused)
	}
}

func TestNumInt(t *testing.T) {
	for i, want := range map[int]impl.Num{
		0: whole("0"), 1: whole("1"), -1: below(whole("1")), 9: whole("9"), 10: whole("10"), -10: below(whole("10")), 255: whole("255"), 999999999: whole("999999999"), 1000000000: whole("1000000000"), -1000000000: below(whole("1000000000")), 1000000000000000000: whole("1000000000000000000"), -999999999999999999: below(whole("999999999999999999")),
		math.MaxInt: whole("9223372036854775807"), math.MaxInt - 1: whole("9223372036854775806"), math.MinInt: below(whole("9223372036854775808")), math.MinInt + 1: below(whole("9223372036854775807")), math.MinInt + 2: below(whole("9223372036854775806")),
	} {
		if n := impl.NumInt(i); n != want {
			t.Errorf("%d is %+v, and not %+v", i, n, want)
		}
	}
}

// P14: NumInt of each int is ok, and of its sign.
func TestNumIntIsOkAndOfItsSign(t *testing.T) {
	for _, i := range edgeInts() {
		n := impl.NumInt(i)
		want := whole(strings.TrimPrefix(strconv.Itoa(i), "-"))
		want.Neg = i < 0
		if n != want || !impl.NumOk(n) {
			t.Errorf("%d is %+v, ok: %v, and not %+v", i, n, impl.NumOk(n), want)
		}
	}
}

// P14: one more is NumInt of one more, but of the greatest int.
func TestNumIntOfOneMoreIsOneMore(t *testing.T) {
	for _, i := range edgeInts() {
		if i == math.MaxInt {
			continue
		}
		one, other := ratOf(impl.NumInt(i)), ratOf(impl.NumInt(i+1))
		if one.Add(one, big.NewRat(1, 1)).Cmp(other) != 0 {
			t.Errorf("one more than %d is %s, and not %s", i, one.RatString(), other.RatString())
		}
	}
}

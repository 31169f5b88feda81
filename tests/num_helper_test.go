package tests

import (
	"math"
	"math/big"
	"regexp"
	"strconv"
	"strings"
	"testing"

	"loop.example/siskin/impl"
)

var radixes = []int{2, 8, 10, 16}

// digitsOfRadix are the digits that a radix has.
func digitsOfRadix(radix int) string {
	return "0123456789abcdef"[:radix]
}

// notRadixes are numbers that are no radix.
func notRadixes() []int {
	all := []int{math.MinInt, math.MinInt + 10, -1 << 32, 1<<32 + 10, 1<<40 + 16, math.MaxInt}
	for radix := -40; radix < 300; radix++ {
		if radix != 2 && radix != 8 && radix != 10 && radix != 16 {
			all = append(all, radix)
		}
	}
	return all
}

func nines(many int) string {
	return strings.Repeat("9", many)
}

func noughts(many int) string {
	return strings.Repeat("0", many)
}

func whole(digits string) impl.Num {
	return impl.Num{Up: digits, Down: "1"}
}

func below(n impl.Num) impl.Num {
	n.Neg = true
	return n
}

// bigOf is what decimal digits tell.
func bigOf(digits string) *big.Int {
	n, ok := new(big.Int).SetString(digits, 10)
	if !ok {
		panic(digits + " are no digits")
	}
	return n
}

func times(a, b string) string {
	return new(big.Int).Mul(bigOf(a), bigOf(b)).String()
}

// inRadix is a whole number, told by its decimal digits, in a radix.
func inRadix(digits string, radix int) string {
	return bigOf(digits).Text(radix)
}

// ratOf is what an ok number is worth.
func ratOf(n impl.Num) *big.Rat {
	r := new(big.Rat).SetFrac(bigOf(n.Up), bigOf(n.Down))
	if n.Neg {
		r.Neg(r)
	}
	return r
}

// numOf is what is above and below as a number; false, if it is too big.
func numOf(neg bool, up, down *big.Int) (impl.Num, bool) {
	r := new(big.Rat).SetFrac(up, down)
	n := impl.Num{Neg: neg && r.Sign() != 0, Up: r.Num().String(), Down: r.Denom().String()}
	if len(n.Up) > impl.NumMaxDigits || len(n.Down) > impl.NumMaxDigits {
		return impl.Num{}, false
	}
	return n, true
}

var decimals = regexp.MustCompile(`^(0|[1-9][0-9]*)$`)

// wantNumOk is NumOk by the words of the document.
func wantNumOk(n impl.Num) bool {
	for _, digits := range []string{n.Up, n.Down} {
		if !decimals.MatchString(digits) || len(digits) > impl.NumMaxDigits {
			return false
		}
	}
	if n.Down == "0" || n.Neg && n.Up == "0" {
		return false
	}
	return new(big.Int).GCD(nil, nil, bigOf(n.Up), bigOf(n.Down)).String() == "1"
}

// textShapes are the texts that are read in a radix: a sign, and what is above and below, or ahead of a point and behind it.
type textShapes struct {
	radix  int
	plain  *regexp.Regexp
	points *regexp.Regexp
}

func textShapesOf(radix int) textShapes {
	digit := "[" + digitsOfRadix(radix) + "]"
	return textShapes{
		radix:  radix,
		plain:  regexp.MustCompile(`^([+-]?)(` + digit + `+)(?:/(` + digit + `+))?$`),
		points: regexp.MustCompile(`^([+-]?)([0-9]*)\.([0-9]*)$`),
	}
}

// wantParse is NumParse by the words of the document.
func (s textShapes) wantParse(text string) (impl.Num, bool) {
	if len(text) > 240 {
		return impl.Num{}, false
	}
	if m := s.plain.FindStringSubmatch(text); m != nil {
		up, _ := new(big.Int).SetString(m[2], s.radix)
		down := big.NewInt(1)
		if m[3] != "" {
			down, _ = new(big.Int).SetString(m[3], s.radix)
		}
		if down.Sign() == 0 {
			return impl.Num{}, false
		}
		return numOf(m[1] == "-", up, down)
	}
	if m := s.points.FindStringSubmatch(text); m != nil && s.radix == 10 && m[2]+m[3] != "" {
		return numOf(m[1] == "-", bigOf(m[2]+m[3]), bigOf("1"+noughts(len(m[3]))))
	}
	return impl.Num{}, false
}

// wantPrint is NumPrint by the words of the document, of a number that is ok and a radix.
func wantPrint(n impl.Num, radix int) string {
	text := inRadix(n.Up, radix)
	if n.Neg {
		text = "-" + text
	}
	if n.Down != "1" {
		text += "/" + inRadix(n.Down, radix)
	}
	return text
}

func demandParse(t *testing.T, text string, radix int, want impl.Num, wantOk bool) {
	t.Helper()
	if n, ok := impl.NumParse(text, radix); n != want || ok != wantOk {
		t.Errorf("%q in %d is read as %+v, %v, and not as %+v, %v", text, radix, n, ok, want, wantOk)
	}
	if n, ok := textShapesOf(radix).wantParse(text); n != want || ok != wantOk {
		t.Errorf("%q in %d is, by the words, %+v, %v, and not %+v, %v", text, radix, n, ok, want, wantOk)
	}
}

func demandPrint(t *testing.T, n impl.Num, radix int, want string) {
	t.Helper()
	if text := impl.NumPrint(n, radix); text != want {
		t.Errorf("%+v in %d is written as %q, and not as %q", n, radix, text, want)
	}
}

// edgeInts are ints where a digit, a group of digits or a word ends, with their neighbours, without and with a sign.
func edgeInts() []int {
	all := []int{math.MinInt, math.MinInt + 1, math.MinInt + 2, math.MaxInt, math.MaxInt - 1, math.MaxInt - 2}
	for power := 1; power < math.MaxInt/10; power *= 10 {
		all = append(all, power-1, power, power+1, 1-power, -power, -1-power, 7*power, -7*power)
	}
	for power := 1; power > 0; power *= 2 {
		all = append(all, power-1, power, power+1, 1-power, -power, -1-power)
	}
	for i := -300; i <= 300; i++ {
		all = append(all, i)
	}
	return all
}

// someNumsOk are numbers that are ok, the limits being met by the last ones.
func someNumsOk() []impl.Num {
	all := []impl.Num{
		whole("0"), whole("1"), below(whole("1")), whole("9"), whole("10"), whole("100"), below(whole("1000000000")), whole("999999999"), whole("1000000001"), whole("18446744073709551616"),
		{Up: "1", Down: "2"}, {Neg: true, Up: "1", Down: "2"}, {Up: "3", Down: "2"}, {Up: "5", Down: "4"}, {Up: "10", Down: "3"}, {Neg: true, Up: "7", Down: "1000000000"}, {Up: "1000000000", Down: "999999999"}, {Up: "1000000007", Down: "1000000009"},
		whole(nines(60)), below(whole(nines(60))), whole("1" + noughts(59)), {Up: "1", Down: nines(60)}, {Neg: true, Up: "1", Down: "1" + noughts(59)}, {Up: nines(60), Down: "1" + noughts(59)}, {Up: "1" + noughts(59), Down: nines(60)}, {Up: nines(59) + "8", Down: nines(60)}, {Neg: true, Up: nines(60), Down: nines(59) + "8"},
	}
	m := numMaker{formMaker{state: 11}}
	for range 500 {
		all = append(all, m.number())
	}
	return all
}

// someNumsNotOk are numbers that are not ok, each by one thing, by what that is.
func someNumsNotOk() map[string]impl.Num {
	prime := "1000000000000066600000000000001"
	all := map[string]impl.Num{
		"nothing": {}, "nothing above": {Down: "1"}, "nothing below": {Up: "1"}, "nothing below nought": {Up: "0"}, "nothing below, Neg": {Neg: true, Up: "1"},
		"nought below": {Up: "1", Down: "0"}, "nought below nought": {Up: "0", Down: "0"}, "nought below much": {Up: nines(60), Down: "0"}, "nought below, Neg": {Neg: true, Up: "1", Down: "0"},
		"Neg with nought": below(whole("0")), "nought over 2": {Up: "0", Down: "2"}, "nought over much": {Up: "0", Down: nines(60)},
		"a nought ahead": whole("01"), "noughts for nought": whole("00"), "noughts ahead": whole("0007"), "only noughts ahead, to the limit": whole(noughts(59) + "1"), "a nought ahead below": {Up: "1", Down: "02"}, "a nought ahead of 1 below": {Up: "2", Down: "01"}, "noughts below": {Up: "1", Down: "00"},
		"2 divides both": {Up: "2", Down: "4"}, "3 divides both": {Up: "6", Down: "3"}, "both the same": {Up: "7", Down: "7"}, "5 divides both": {Up: "5", Down: "1" + noughts(59)}, "2 divides both, Neg": {Neg: true, Up: "4", Down: "6"},
		"much divides both": {Up: times(prime, "2"), Down: times(prime, "3")}, "much divides both, below greater": {Up: prime, Down: times(prime, "1000000000000000000000")}, "both much and the same": {Up: nines(60), Down: nines(60)}, "noughts behind both": {Up: "7" + noughts(59), Down: "3" + noughts(59)},
		"a digit too many above": whole("1" + noughts(60)), "a digit too many above, nines": whole(nines(61)), "a digit too many above, Neg": below(whole(nines(61))), "a digit too many below": {Up: "1", Down: "1" + noughts(60)}, "a digit too many below, nines": {Up: "1", Down: nines(61)}, "many digits too many": whole(nines(100000)),
	}
	for b := range 256 {
		if b >= '0' && b <= '9' {
			continue
		}
		one := string([]byte{byte(b)})
		for _, text := range []string{one, one + "1", "1" + one, "1" + one + "1", nines(59) + one} {
			all["no digits above: "+strconv.Quote(text)] = whole(text)
			all["no digits below: "+strconv.Quote(text)] = impl.Num{Up: "1", Down: text}
		}
	}
	for _, text := range []string{"+1", "-1", "1.0", "1.", ".1", "1/2", "1e3", "0x1", "1_000", "ff", "\u0663", "\uff11", "1\u00b2", "\ufffd"} {
		all["no digits above: "+text] = whole(text)
		all["no digits below: "+text] = impl.Num{Up: "1", Down: text}
	}
	return all
}

// numMaker makes numbers and texts of numbers that follow a fixed rule.
type numMaker struct {
	formMaker
}

// digits are some decimal digits, at most so many, without noughts ahead; groups of nines and of noughts are frequent.
func (m *numMaker) digits(most int) string {
	text := strconv.Itoa(1 + m.below(9))
	for many := 1 + m.below(most); len(text) < many; {
		switch m.below(6) {
		case 0:
			text += noughts(1 + m.below(12))
		case 1:
			text += nines(1 + m.below(12))
		default:
			text += strconv.Itoa(m.below(10000))
		}
	}
	return text[:min(len(text), most)]
}

// number is a number that is ok.
func (m *numMaker) number() impl.Num {
	return m.numberUpTo(impl.NumMaxDigits)
}

// numberUpTo is a number that is ok, of at most so many digits above, and below.
func (m *numMaker) numberUpTo(most int) impl.Num {
	up, down := m.digits(most), "1"
	if m.below(3) > 0 {
		down = m.digits(most)
	}
	if m.below(20) == 0 {
		up = "0"
	}
	n, _ := numOf(m.below(2) == 0, bigOf(up), bigOf(down))
	return n
}

// text is some text of a number, often with something above and below that divides both.
func (m *numMaker) text(radix int) string {
	sign := []string{"", "", "+", "-"}[m.below(4)]
	ahead := noughts(m.below(4))
	switch m.below(4) {
	case 0:
		return sign + ahead + inRadix(m.digits(70), radix)
	case 1:
		digits := ahead + m.digits(80) + noughts(m.below(120))
		at := m.below(len(digits) + 1)
		return sign + digits[:at] + "." + digits[at:]
	}
	common := m.digits(60)
	return sign + ahead + inRadix(times(m.digits(64), common), radix) + "/" + noughts(m.below(3)) + inRadix(times(m.digits(64), common), radix)
}

// word is some text of a few pieces, most of which numbers have.
func (m *numMaker) word() string {
	pieces := []string{"0", "0", "1", "1", "00", "10", "7", "8", "9", "a", "f", "g", "A", "F", "/", "/", ".", ".", "+", "-", " ", "\u0663", "\xff"}
	text := []string{"", "", "+", "-"}[m.below(4)]
	for range m.below(8) {
		text += pieces[m.below(len(pieces))]
	}
	return text
}

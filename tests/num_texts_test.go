package tests

import (
	"slices"
	"strings"
	"testing"
	"unsafe"

	"loop.example/siskin/impl"
)

// demandParses fails, if the texts of a radix are not read as numbers that are written so in radix 10, or, of the empty text, as none.
func demandParses(t *testing.T, radix int, wants map[string]string) {
	t.Helper()
	for text, want := range wants {
		n := impl.Num{}
		if want != "" {
			unsigned, neg := strings.CutPrefix(want, "-")
			up, down, has := strings.Cut(unsigned, "/")
			if !has {
				down = "1"
			}
			n = impl.Num{Neg: neg, Up: up, Down: down}
		}
		demandParse(t, text, radix, n, want != "")
	}
}

func TestParseDigits(t *testing.T) {
	demandParses(t, 2, map[string]string{"0": "0", "1": "1", "10": "2", "101": "5", "11111111": "255", "2": "", "12": "", "3": "", "9": "", "a": "", "1a": "", "A": ""})
	demandParses(t, 8, map[string]string{"0": "0", "7": "7", "10": "8", "17": "15", "377": "255", "01234567": "342391", "8": "", "18": "", "9": "", "a": "", "F": ""})
	demandParses(t, 10, map[string]string{"0": "0", "9": "9", "10": "10", "255": "255", "1234567890": "1234567890", "a": "", "1a": "", "a1": "", "A": "", "f": "", "1e3": "", "0x10": "", "1_000": "", "1,5": ""})
	demandParses(t, 16, map[string]string{"0": "0", "9": "9", "a": "10", "f": "15", "10": "16", "ff": "255", "0123456789abcdef": "81985529216486895", "fedcba98765432100": "293836136711889035520", "g": "", "1g": "", "FF": "", "A": "", "fF": "", "0x1": "", "x1": "", "G": ""})
}

// Each byte, alone and within, is read just if the radix has it as a digit.
func TestParseEachByte(t *testing.T) {
	for _, radix := range radixes {
		for b := range 256 {
			one := string([]byte{byte(b)})
			worth := strings.IndexByte(digitsOfRadix(radix), byte(b))
			n, ok := impl.NumParse(one, radix)
			if ok != (worth >= 0) || ok && n != impl.NumInt(worth) || !ok && n != (impl.Num{}) {
				t.Errorf("%q in %d is read as %+v, %v", one, radix, n, ok)
			}
			for _, text := range []string{one + "1", "1" + one, "1" + one + "1", "-" + one, "1/" + one, "1/1" + one, one + "/1"} {
				want, wantOk := textShapesOf(radix).wantParse(text)
				demandParse(t, text, radix, want, wantOk)
			}
		}
	}
}

func TestParseSigns(t *testing.T) {
	for _, radix := range radixes {
		demandParses(t, radix, map[string]string{
			"+1": "1", "-1": "-1", "+0": "0", "-0": "0", "-00": "0", "+001": "1", "-001": "-1", "-1/11": "-1/" + bigOfRadix("11", radix), "+1/11": "1/" + bigOfRadix("11", radix), "-0/1": "0", "-0/11": "0",
			"": "", "+": "", "-": "", "--1": "", "++1": "", "+-1": "", "-+1": "", "1-": "", "1+": "", "1-1": "", "1+1": "", "-/1": "", "+/1": "", "1/-1": "", "1/+1": "", "-1/-1": "", "1/1-": "", "- 1": "", "/-1": "",
		})
	}
}

// bigOfRadix is what digits of a radix tell, in decimals.
func bigOfRadix(digits string, radix int) string {
	n := 0
	for _, digit := range digits {
		n = n*radix + strings.IndexRune(digitsOfRadix(radix), digit)
	}
	return impl.NumInt(n).Up
}

func TestParseWhatIsBelow(t *testing.T) {
	for _, radix := range radixes {
		demandParses(t, radix, map[string]string{
			"1/1": "1", "0/1": "0", "1/10": "1/" + bigOfRadix("10", radix), "10/1": bigOfRadix("10", radix), "10/10": "1", "110/10": bigOfRadix("11", radix), "100/1000": "1/" + bigOfRadix("10", radix), "001/0010": "1/" + bigOfRadix("10", radix), "0/111": "0", "000/001": "0",
			"/": "", "1/": "", "/1": "", "//": "", "1//1": "", "1/1/1": "", "1/1/": "", "/1/1": "", "0/0": "", "1/0": "", "-1/0": "", "1/000": "", "0/000": "", "+/": "", "1 / 1": "", "1/ 1": "", "1\\1": "",
		})
	}
	demandParses(t, 10, map[string]string{"6/4": "3/2", "4/2": "2", "-6/4": "-3/2", "2/4": "1/2", "7/7": "1", "123456789123456789/123456789": "1000000001", "1000000000/3000000000": "1/3", "99999999999999999999/33333333333333333333": "3"})
	demandParses(t, 2, map[string]string{"-101/10": "-5/2", "110/100": "3/2", "1/2": "", "2/1": ""})
	demandParses(t, 8, map[string]string{"10/4": "2", "17/11": "5/3", "1/8": "", "8/1": ""})
	demandParses(t, 16, map[string]string{"ff/f": "17", "-a/4": "-5/2", "1/G": "", "F/1": ""})
}

func TestParsePoints(t *testing.T) {
	demandParses(t, 10, map[string]string{
		"1.25": "5/4", ".5": "1/2", "-.5": "-1/2", "+.5": "1/2", "5.": "5", "-5.": "-5", "0.": "0", ".0": "0", "-.0": "0", "-0.0": "0", "0.1": "1/10", "00.10": "1/10", "10.0": "10", "12.50": "25/2", "3.14159": "314159/100000", ".001": "1/1000", "1.000000001": "1000000001/1000000000", "0.0000000001": "1/10000000000", "123456789.123456789": "123456789123456789/1000000000",
		".": "", "-.": "", "+.": "", "..": "", "1..2": "", ".1.": "", "1.2.3": "", "1.2.": "", "..1": "", "1.5/2": "", "1/2.5": "", "1./2": "", "1/.5": "", "1/2.": "", "./1": "", "1/.": "", "/.": "", "./": "", "1.-5": "", "1.+5": "", ".-5": "", "1. 5": "", "1.a": "", "1.5e3": "",
	})
	for _, radix := range []int{2, 8, 16} {
		demandParses(t, radix, map[string]string{"1.1": "", ".1": "", "1.": "", ".": "", "-1.0": "", "0.0": "", "1.1/1": "", "1/1.": ""})
	}
}

func TestParseNoughtsAhead(t *testing.T) {
	for _, radix := range radixes {
		demandParses(t, radix, map[string]string{"00": "0", "01": "1", "-01": "-1", "0001/0001": "1", "-000/0001": "0", "0000000000000000000000000000001": "1"})
	}
	demandParses(t, 10, map[string]string{"007": "7", "+007": "7", "000.5": "1/2", "00/01": "0", noughts(100) + nines(60): nines(60), "1/" + noughts(100) + nines(60): "1/" + nines(60)})
}

func TestParseAsksForTheRadix(t *testing.T) {
	for _, radix := range notRadixes() {
		for _, text := range []string{"0", "1", "10", "-1", "1/1", "1.5", "", "z"} {
			if n, ok := impl.NumParse(text, radix); ok || n != (impl.Num{}) {
				t.Errorf("%q in %d is read as %+v, %v", text, radix, n, ok)
			}
		}
	}
}

// Texts of just as many bytes as may be, and one more.
func TestParseLongTexts(t *testing.T) {
	for _, radix := range radixes {
		for _, c := range []struct{ ahead, behind, want string }{
			{"", "1", "1"}, {"", "0", "0"}, {"+", "1", "1"}, {"-", "1", "-1"}, {"", "/1", "0"}, {"1/", "1", "1"}, {"-1/", "1", "-1"}, {"", "1/1", "1"}, {"1/", "", ""}, {"", "/", ""},
		} {
			room := 240 - len(c.ahead) - len(c.behind)
			demandParses(t, radix, map[string]string{c.ahead + noughts(room) + c.behind: c.want, c.ahead + noughts(room+1) + c.behind: "", c.ahead + noughts(room-1) + c.behind: c.want})
		}
	}
	demandParses(t, 10, map[string]string{
		"." + noughts(239): "0", "." + noughts(240): "", noughts(239) + ".": "0", noughts(240) + ".": "", "1." + noughts(238): "1", "1." + noughts(239): "", "-.5" + noughts(237): "-1/2", "-.5" + noughts(238): "", noughts(240): "0", noughts(241): "",
		nines(60) + "." + noughts(179): nines(60), strings.Repeat("1", 240): "", "1/" + strings.Repeat("1", 238): "", strings.Repeat("1", 100000): "", noughts(1000000): "",
	})
	common := "1" + noughts(59) + "7" + noughts(57) + "1"
	demandParses(t, 10, map[string]string{times(common, "2") + "/" + times(common, "3"): "2/3", "-" + times(common, "3") + "/" + times(common, "2"): "-3/2", common + "/" + common: "1"})
}

// What is too big in lowest terms is refused; what is too big only ahead of them is not.
func TestParseTooBig(t *testing.T) {
	for _, radix := range radixes {
		in := func(digits string) string { return inRadix(digits, radix) }
		demandParses(t, radix, map[string]string{
			in(nines(60)): nines(60), "-" + in(nines(60)): "-" + nines(60), "1/" + in(nines(60)): "1/" + nines(60), in("1" + noughts(59)): "1" + noughts(59),
			in("1" + noughts(60)): "", "-" + in("1"+noughts(60)): "", "1/" + in("1"+noughts(60)): "", in(nines(61)): "", "1/" + in(nines(61)): "",
		})
	}
	for _, radix := range []int{10, 16} {
		in := func(digits string) string { return inRadix(digits, radix) }
		demandParses(t, radix, map[string]string{
			in(nines(60)) + "/" + in("1"+noughts(59)): nines(60) + "/1" + noughts(59), in(nines(60)) + "/" + in(nines(59)+"8"): nines(60) + "/" + nines(59) + "8",
			in(nines(60)) + "/" + in("1"+noughts(60)): "", in("1"+noughts(60)) + "/" + in(nines(60)): "", in(nines(61)) + "/" + in("1"+noughts(60)): "",
			in(times(nines(60), "2")) + "/" + in("2"): nines(60), in("7") + "/" + in(times(nines(60), "7")): "1/" + nines(60), in("11") + "/" + in(times("1"+noughts(59), "11")): "1/1" + noughts(59), in(times("1"+noughts(60), "3")) + "/" + in("3"): "",
			in("1"+noughts(80)) + "/" + in("1"+noughts(79)): "10", in("1"+noughts(70)) + "/" + in("1"+noughts(11)): "1" + noughts(59), in("1"+noughts(70)) + "/" + in("1"+noughts(10)): "", in("1"+noughts(11)) + "/" + in("1"+noughts(70)): "1/1" + noughts(59), in("1"+noughts(10)) + "/" + in("1"+noughts(70)): "",
		})
	}
	demandParses(t, 10, map[string]string{
		"." + noughts(58) + "1": "1/1" + noughts(59), "." + noughts(59) + "1": "", "." + noughts(59) + "5": "1/2" + noughts(59), "." + noughts(59) + "2": "1/5" + noughts(59), "1." + noughts(58) + "1": "1" + noughts(58) + "1/1" + noughts(59), "1." + noughts(59) + "1": "", "." + noughts(178) + "1": "",
		nines(60) + ".": nines(60), nines(61) + ".": "", "1" + noughts(59) + ".5": "2" + noughts(58) + "1/2", nines(60) + ".5": "", "." + nines(59): nines(59) + "/1" + noughts(59), "." + nines(60): "", "5." + noughts(200): "5",
	})
}

// Texts that look like numbers, but have bytes that no text may have.
func TestParseOtherBytes(t *testing.T) {
	for _, radix := range radixes {
		for _, text := range []string{
			" ", " 1", "1 ", "1 1", "\t1", "1\n", "\n", "\r", "1\r\n", "\x00", "1\x00", "\x001", "\xff", "1\xff", "\x80", "1\xc3", "\xef\xbf\xbd", "\u0661", "1\u0661", "\uff11", "\U0001d7cf", "\u2212" + "1", "\uff0b1", "1\u20441", "1\u22151", "1\u30021", "1\uff0e1", "\u00bd", "\u00b2", "\ufeff1", "1\u00a0",
			"'1", "#1", "#x1", "1'", "(1)", "\"1\"", "1~", "inf", "+inf.0", "nan", "1/inf", "1i", "#t", "one",
		} {
			demandParse(t, text, radix, impl.Num{}, false)
		}
	}
}

// P13: what NumParse reads is ok, and nothing comes with false.
func TestParseOfMadeTexts(t *testing.T) {
	m := numMaker{formMaker{state: 5}}
	read, refused := 0, 0
	for _, radix := range radixes {
		shapes := textShapesOf(radix)
		for i := range 6000 {
			text := m.word()
			if i%2 == 0 {
				text = m.text(radix)
			}
			n, ok := impl.NumParse(text, radix)
			if want, wantOk := shapes.wantParse(text); n != want || ok != wantOk {
				t.Errorf("%q in %d is read as %+v, %v, and not as %+v, %v", text, radix, n, ok, want, wantOk)
			}
			if ok != impl.NumOk(n) {
				t.Errorf("%q in %d: %+v is ok: %v", text, radix, n, impl.NumOk(n))
			}
			if ok {
				read++
			} else {
				refused++
			}
		}
	}
	if read < 5000 || refused < 5000 {
		t.Errorf("%d made texts are read, %d refused", read, refused)
	}
}

func TestPrint(t *testing.T) {
	for _, c := range []struct {
		n     impl.Num
		wants [4]string
	}{
		{whole("0"), [4]string{"0", "0", "0", "0"}},
		{whole("1"), [4]string{"1", "1", "1", "1"}},
		{below(whole("1")), [4]string{"-1", "-1", "-1", "-1"}},
		{whole("2"), [4]string{"10", "2", "2", "2"}},
		{whole("8"), [4]string{"1000", "10", "8", "8"}},
		{whole("10"), [4]string{"1010", "12", "10", "a"}},
		{below(whole("16")), [4]string{"-10000", "-20", "-16", "-10"}},
		{whole("255"), [4]string{"11111111", "377", "255", "ff"}},
		{impl.Num{Up: "10", Down: "3"}, [4]string{"1010/11", "12/3", "10/3", "a/3"}},
		{impl.Num{Up: "1", Down: "10"}, [4]string{"1/1010", "1/12", "1/10", "1/a"}},
		{impl.Num{Neg: true, Up: "1", Down: "2"}, [4]string{"-1/10", "-1/2", "-1/2", "-1/2"}},
		{impl.Num{Neg: true, Up: "255", Down: "256"}, [4]string{"-11111111/100000000", "-377/400", "-255/256", "-ff/100"}},
		{whole("1000000000"), [4]string{"111011100110101100101000000000", "7346545000", "1000000000", "3b9aca00"}},
	} {
		for i, radix := range radixes {
			demandPrint(t, c.n, radix, c.wants[i])
		}
	}
	demandPrint(t, impl.NumInt(-9223372036854775808), 16, "-8000000000000000")
	demandPrint(t, whole("81985529216486895"), 16, "123456789abcdef")
	demandPrint(t, whole("1"+noughts(59)), 10, "1"+noughts(59))
	demandPrint(t, impl.Num{Neg: true, Up: nines(59) + "8", Down: nines(60)}, 10, "-"+nines(59)+"8/"+nines(60))
}

func TestPrintOfMadeNumbers(t *testing.T) {
	for _, n := range someNumsOk() {
		for _, radix := range radixes {
			demandPrint(t, n, radix, wantPrint(n, radix))
		}
	}
}

func TestPrintAsksForTheRadix(t *testing.T) {
	for _, radix := range notRadixes() {
		for _, n := range []impl.Num{whole("0"), whole("1"), below(whole("12")), {Up: "1", Down: "2"}, {}} {
			demandPrint(t, n, radix, "")
		}
	}
}

func TestPrintAsksForNumbers(t *testing.T) {
	for _, n := range someNumsNotOk() {
		for _, radix := range append([]int{0, 3}, radixes...) {
			demandPrint(t, n, radix, "")
		}
	}
}

// P13: NumParse of NumPrint is the number, in each radix, if the text is not too long.
func TestParseOfPrintIsTheNumber(t *testing.T) {
	numbers := someNumsOk()
	for _, i := range edgeInts() {
		numbers = append(numbers, impl.NumInt(i))
	}
	long := 0
	for _, n := range numbers {
		for _, radix := range radixes {
			text := impl.NumPrint(n, radix)
			if len(text) > 240 {
				long++
				demandParse(t, text, radix, impl.Num{}, false)
				continue
			}
			demandParse(t, text, radix, n, true)
		}
	}
	if long == 0 {
		t.Error("no text was too long")
	}
}

// What is written with noughts ahead, a plus, or as a point, is written without.
func TestPrintOfParse(t *testing.T) {
	for text, want := range map[string]string{"+007": "7", "-000": "0", "-.50": "-1/2", "5.": "5", "10/4": "5/2", "-4/02": "-2", "0/5": "0"} {
		n, _ := impl.NumParse(text, 10)
		demandPrint(t, n, 10, want)
	}
}

// overwritten are texts that lie in memory that is written over.
type overwritten struct {
	lent [][]byte
}

func (o *overwritten) lend(text string) string {
	room := []byte(text)
	o.lent = append(o.lent, room)
	return unsafe.String(&room[0], len(room))
}

func (o *overwritten) overwrite() {
	for _, room := range o.lent {
		for i := range room {
			room[i] = '#'
		}
	}
}

// An answer has nothing of the memory of what was handed in, and what was handed in is as it was.
func TestNumbersShareNoMemory(t *testing.T) {
	for _, text := range []string{"5", "0", "-7", "12/35", "123456789012345678901234567890", "1.5", "-12345/7"} {
		o := overwritten{}
		lent := o.lend(text)
		n, ok := impl.NumParse(lent, 10)
		if lent != text {
			t.Errorf("%q is %q when it was read", text, lent)
		}
		o.overwrite()
		if want, _ := textShapesOf(10).wantParse(text); !ok || n != want {
			t.Errorf("%q is read as %+v, in memory that was handed in", text, n)
		}
		for _, radix := range radixes {
			given := impl.Num{Neg: n.Neg, Up: o.lend(n.Up), Down: o.lend(n.Down)}
			printed := impl.NumPrint(given, radix)
			if given != n || !impl.NumOk(given) {
				t.Errorf("%+v is %+v when it was written", n, given)
			}
			o.overwrite()
			if printed != wantPrint(n, radix) {
				t.Errorf("%+v in %d is written as %q, in memory that was handed in", n, radix, printed)
			}
		}
	}
}

// Nothing is kept: the same is answered again, whatever was asked in between.
func TestNumbersAreTheSameAgain(t *testing.T) {
	m := numMaker{formMaker{state: 9}}
	var texts []string
	for range 300 {
		texts = append(texts, m.text(10), m.word())
	}
	answers := func() []impl.Num {
		var all []impl.Num
		for _, text := range texts {
			n, _ := impl.NumParse(text, 10)
			all = append(all, n)
		}
		return all
	}
	first := answers()
	impl.NumParse(nines(200), 10)
	impl.NumPrint(whole(nines(60)), 2)
	if !slices.Equal(first, answers()) {
		t.Error("another time something else is read")
	}
}

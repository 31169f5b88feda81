package tests

import (
	"strings"
	"testing"

	"loop.example/siskin/impl"
)

func TestCoreShow(t *testing.T) {
	one, two := konst("1"), ref("b~2")
	for _, c := range []struct {
		core impl.ExpCore
		want string
	}{
		{konst("-5"), "-5"},
		{konst("'(a b)"), "'(a b)"},
		{konst(""), ""},
		{ref("x~1"), "x~1"},
		{lambda(nil, false, one), "(lambda () 1)"},
		{lambda(names("a"), false, one), "(lambda (a) 1)"},
		{lambda(names("a", "b"), false, ref("a")), "(lambda (a b) a)"},
		{lambda(names("a"), true, ref("a")), "(lambda (. a) a)"},
		{lambda(names("a", "b"), true, one), "(lambda (a . b) 1)"},
		{lambda(names("a", "b", "c"), true, one), "(lambda (a b . c) 1)"},
		{call(), "()"},
		{call(one), "(1)"},
		{call(one, two, call(two)), "(1 b~2 (b~2))"},
		{ifOf(one, two), "(if 1 b~2)"},
		{ifOf(one, two, one), "(if 1 b~2 1)"},
		{set("x", two), "(set! x b~2)"},
		{begin(one), "(begin 1)"},
		{begin(one, two), "(begin 1 b~2)"},
		{rec(nil, one), "(rec () 1)"},
		{rec(names("a~1"), one, ref("a~1")), "(rec (a~1) 1 a~1)"},
		{rec(names("a", "b"), one, two, call(one)), "(rec (a b) 1 b~2 (1))"},
		{define("f", lambda(names("x"), false, call(ref("f"), ref("x")))), "(define f (lambda (x) (f x)))"},
	} {
		if got := impl.ExpCoreShow(c.core); got != c.want {
			t.Errorf("%q, not %q", got, c.want)
		}
	}
}

func TestCoreShowOfOtherSorts(t *testing.T) {
	for _, sort := range []int{0, -1, 10, 11, 1 << 40, -1 << 40} {
		for want, kids := range map[string][]impl.ExpCore{"()": nil, "( 1)": cores(konst("1")), "( 1 (f))": cores(konst("1"), call(ref("f")))} {
			c := impl.ExpCore{Sort: sort, Text: "text", Rest: true, Names: names("a"), Kids: kids}
			if got := impl.ExpCoreShow(c); got != want {
				t.Errorf("Sort %d: %q, not %q", sort, got, want)
			}
		}
	}
	inner := impl.ExpCore{Sort: 12, Kids: cores(impl.ExpCore{})}
	if got := impl.ExpCoreShow(begin(inner, konst("1"))); got != "(begin ( ()) 1)" {
		t.Errorf("%q", got)
	}
}

// What a Sort does not have is not shown; Kids that are too few or too many are shown as they are.
func TestCoreShowOfOtherShapes(t *testing.T) {
	for _, c := range []struct {
		core impl.ExpCore
		want string
	}{
		{impl.ExpCore{Sort: impl.CoreConst, Text: "1", Rest: true, Names: names("a"), Kids: cores(konst("2"))}, "1"},
		{impl.ExpCore{Sort: impl.CoreRef, Text: "a", Rest: true, Names: names("a"), Kids: cores(konst("2"))}, "a"},
		{impl.ExpCore{Sort: impl.CoreCall, Text: "t", Rest: true, Names: names("a"), Kids: cores(konst("2"))}, "(2)"},
		{impl.ExpCore{Sort: impl.CoreBegin, Text: "t", Rest: true, Names: names("a")}, "(begin)"},
		{impl.ExpCore{Sort: impl.CoreRec, Text: "t", Rest: true, Names: names("a", "b"), Kids: cores(konst("2"))}, "(rec (a b) 2)"},
		{impl.ExpCore{Sort: impl.CoreLambda, Text: "t", Rest: true, Kids: cores(konst("2"))}, "(lambda () 2)"},
		{impl.ExpCore{Sort: impl.CoreIf, Text: "t", Rest: true, Names: names("a")}, "(if)"},
		{ifOf(konst("1")), "(if 1)"},
		{ifOf(konst("1"), konst("2"), konst("3"), konst("4")), "(if 1 2 3 4)"},
		{lambda(names("a"), false), "(lambda (a))"},
		{lambda(names("a", "a"), false, konst("1"), konst("2")), "(lambda (a a) 1 2)"},
		{set("x"), "(set! x)"},
		{set("x", konst("1"), konst("2")), "(set! x 1 2)"},
		{define("x"), "(define x)"},
		{define("", konst("1"), konst("2")), "(define  1 2)"},
		{rec(names("a")), "(rec (a))"},
		{impl.ExpCore{}, "()"},
	} {
		if got := impl.ExpCoreShow(c.core); got != c.want {
			t.Errorf("%q, not %q", got, c.want)
		}
	}
}

func TestCoreShowOfDeepOnes(t *testing.T) {
	const deep = 20000
	c := konst("1")
	for range deep {
		c = call(c)
	}
	if got := impl.ExpCoreShow(c); got != strings.Repeat("(", deep)+"1"+strings.Repeat(")", deep) {
		t.Error("a deep one is not shown")
	}
	if !impl.ExpAlpha(cores(c), cores(c)) || impl.ExpAlpha(cores(c), cores(call(c))) {
		t.Error("deep ones")
	}
}

// demandAlpha asks both ways, and of each to itself.
func demandAlpha(t *testing.T, a, b []impl.ExpCore, want bool) {
	t.Helper()
	if impl.ExpAlpha(a, b) != want || impl.ExpAlpha(b, a) != want {
		t.Errorf("%s and %s: %v and %v, not %v", shownCores(a), shownCores(b), impl.ExpAlpha(a, b), impl.ExpAlpha(b, a), want)
	}
	if !impl.ExpAlpha(a, a) || !impl.ExpAlpha(b, b) {
		t.Errorf("%s or %s is not the same as itself", shownCores(a), shownCores(b))
	}
}

func shownCores(all []impl.ExpCore) string {
	var shown []string
	for _, c := range all {
		shown = append(shown, impl.ExpCoreShow(c))
	}
	return strings.Join(shown, " ")
}

func TestAlphaOfTheSame(t *testing.T) {
	x, y := names("x"), names("y")
	for _, c := range [][2]impl.ExpCore{
		{konst("1"), konst("1")},
		{ref("a"), ref("a")},
		{lambda(nil, false, ref("a")), lambda(nil, false, ref("a"))},
		{lambda(x, false, ref("x")), lambda(y, false, ref("y"))},
		{lambda(x, true, ref("x")), lambda(y, true, ref("y"))},
		{lambda(x, false, set("x", ref("x"))), lambda(y, false, set("y", ref("y")))},
		{lambda(x, false, define("x", ref("x"))), lambda(y, false, define("y", ref("y")))},
		{rec(x, ref("x"), ref("x")), rec(y, ref("y"), ref("y"))},
		{lambda(x, false, lambda(y, false, call(ref("x"), ref("y")))), lambda(y, false, lambda(x, false, call(ref("y"), ref("x"))))},
		{lambda(x, false, lambda(x, false, ref("x"))), lambda(x, false, lambda(y, false, ref("y")))},
		{lambda(names("x", "y"), false, call(ref("x"), ref("y"))), lambda(names("y", "x"), false, call(ref("y"), ref("x")))},
		{lambda(names("x", "x"), false, ref("x")), lambda(names("y", "x"), false, ref("x"))},
		{call(lambda(x, false, ref("x")), ref("x")), call(lambda(y, false, ref("y")), ref("x"))},
		{lambda(x, false, konst("x")), lambda(y, false, konst("x"))},
		{impl.ExpCore{Sort: impl.CoreCall, Names: x, Kids: cores(ref("x"))}, impl.ExpCore{Sort: impl.CoreCall, Names: y, Kids: cores(ref("y"))}},
		{impl.ExpCore{Sort: 0, Names: x, Kids: cores(ref("x"))}, impl.ExpCore{Sort: 0, Names: y, Kids: cores(ref("y"))}},
		{impl.ExpCore{Sort: -4, Text: "t", Rest: true}, impl.ExpCore{Sort: -4, Text: "t", Rest: true}},
		{impl.ExpCore{Sort: impl.CoreSet, Text: "x", Names: x, Kids: cores(ref("x"))}, impl.ExpCore{Sort: impl.CoreSet, Text: "x", Names: y, Kids: cores(ref("y"))}},
	} {
		demandAlpha(t, cores(c[0]), cores(c[1]), true)
		demandAlpha(t, cores(konst("1"), c[0]), cores(konst("1"), c[1]), true)
	}
	demandAlpha(t, nil, []impl.ExpCore{}, true)
}

func TestAlphaOfOthers(t *testing.T) {
	x, y, z := names("x"), names("y"), names("z")
	for _, c := range [][2]impl.ExpCore{
		{konst("1"), konst("2")},
		{konst("a"), ref("a")},
		{ref("a"), ref("b")},
		{set("a", konst("1")), set("b", konst("1"))},
		{define("a", konst("1")), define("b", konst("1"))},
		{lambda(x, false, ref("x")), lambda(x, true, ref("x"))},
		{lambda(x, false, ref("x")), lambda(names("x", "y"), false, ref("x"))},
		{lambda(nil, false, ref("x")), lambda(x, false, ref("x"))},
		{lambda(x, false, ref("x")), lambda(y, false, ref("x"))},
		{lambda(x, false, ref("y")), lambda(y, false, ref("y"))},
		{lambda(x, false, ref("z")), lambda(z, false, ref("z"))},
		{lambda(x, false, konst("x")), lambda(y, false, konst("y"))},
		{lambda(x, false, set("x", konst("1"))), lambda(y, false, set("x", konst("1")))},
		{lambda(x, false, define("x", konst("1"))), lambda(y, false, define("x", konst("1")))},
		{lambda(x, false, lambda(y, false, ref("x"))), lambda(x, false, lambda(y, false, ref("y")))},
		{lambda(x, false, lambda(x, false, ref("x"))), lambda(x, false, lambda(y, false, ref("x")))},
		{lambda(x, false, lambda(y, false, ref("x"))), lambda(x, false, lambda(x, false, ref("x")))},
		{lambda(names("x", "x"), false, ref("x")), lambda(names("y", "x"), false, ref("y"))},
		{lambda(names("x", "y"), false, ref("x")), lambda(names("y", "x"), false, ref("x"))},
		{rec(x, ref("x"), ref("x")), rec(y, ref("y"), ref("x"))},
		{call(lambda(x, false, ref("x")), ref("x")), call(lambda(y, false, ref("y")), ref("y"))},
		{call(ref("f"), ref("a")), call(ref("f"), ref("a"), ref("a"))},
		{call(ref("f"), ref("a")), call(ref("a"), ref("f"))},
		{call(konst("1")), begin(konst("1"))},
		{ifOf(konst("1"), konst("2")), ifOf(konst("1"), konst("2"), konst("3"))},
		{rec(x, konst("1")), impl.ExpCore{Sort: impl.CoreRec, Rest: true, Names: x, Kids: cores(konst("1"))}},
		{call(konst("1")), impl.ExpCore{Sort: impl.CoreCall, Rest: true, Kids: cores(konst("1"))}},
		{impl.ExpCore{Sort: impl.CoreSet, Text: "x", Names: x}, impl.ExpCore{Sort: impl.CoreSet, Text: "y", Names: y}},
		{impl.ExpCore{Sort: 0}, impl.ExpCore{Sort: 10}},
		{impl.ExpCore{Sort: 77, Text: "a"}, impl.ExpCore{Sort: 77, Text: "b"}},
	} {
		demandAlpha(t, cores(c[0]), cores(c[1]), false)
		demandAlpha(t, cores(konst("1"), c[0]), cores(konst("1"), c[1]), false)
	}
}

// Only of CoreRef, CoreSet and CoreDefine a Text is a name.
func TestAlphaOfTexts(t *testing.T) {
	for sort := -1; sort <= 11; sort++ {
		one := lambda(names("x"), false, impl.ExpCore{Sort: sort, Text: "x"})
		other := lambda(names("y"), false, impl.ExpCore{Sort: sort, Text: "y"})
		third := lambda(names("y"), false, impl.ExpCore{Sort: sort, Text: "x"})
		named := sort == impl.CoreRef || sort == impl.CoreSet || sort == impl.CoreDefine
		demandAlpha(t, cores(one), cores(other), named)
		demandAlpha(t, cores(one), cores(third), !named)
		demandAlpha(t, cores(impl.ExpCore{Sort: sort, Text: "x"}), cores(impl.ExpCore{Sort: sort, Text: "y"}), false)
		demandAlpha(t, cores(impl.ExpCore{Sort: sort, Text: "x"}), cores(impl.ExpCore{Sort: sort, Text: "x"}), true)
	}
}

func TestAlphaOfUnlikeLengths(t *testing.T) {
	a := konst("1")
	demandAlpha(t, nil, cores(a), false)
	demandAlpha(t, cores(a), cores(a, a), false)
	demandAlpha(t, cores(call(a, a)), cores(call(a)), false)
	demandAlpha(t, cores(call()), cores(call(a)), false)
	demandAlpha(t, cores(a, a, a), cores(a, a, a), true)
}

// A name that is bound in one part is not bound in the next one.
func TestAlphaForgetsNames(t *testing.T) {
	one := lambda(names("x", "x"), false, ref("x"))
	other := lambda(names("y", "z"), false, ref("z"))
	demandAlpha(t, cores(one, ref("x")), cores(other, ref("x")), true)
	demandAlpha(t, cores(one, ref("x")), cores(other, ref("z")), false)
	demandAlpha(t, cores(one, ref("z")), cores(other, ref("z")), true)
	demandAlpha(t, cores(call(one, one)), cores(call(other, other)), true)
	around := names("x")
	demandAlpha(t, cores(lambda(around, false, call(one, ref("x")))), cores(lambda(around, false, call(other, ref("x")))), true)
	demandAlpha(t, cores(lambda(around, false, call(one, ref("x")))), cores(lambda(around, false, call(other, ref("y")))), false)
}

func TestAlphaByTheWords(t *testing.T) {
	m := coreMaker{formMaker{state: 5}}
	same := 0
	for range 4000 {
		a, b := cores(m.core(1), m.core(0)), cores(m.core(1), m.core(0))
		b[0].Sort, b[1].Sort, b[0].Rest, b[1].Rest = a[0].Sort, a[1].Sort, a[0].Rest, a[1].Rest
		want := wantAlpha(a, b, nil)
		demandAlpha(t, a, b, want)
		if want {
			same++
		}
	}
	for range 3000 {
		a := cores(m.wellMade(4))
		b := cores(m.reworded(a[0]))
		want := wantAlpha(a, b, nil)
		demandAlpha(t, a, b, want)
		if want {
			same++
		}
	}
	if same < 300 || same > 6000 {
		t.Errorf("%d pairs are the same", same)
	}
}

// reworded is a core of which here and there a name is another one.
func (m *coreMaker) reworded(c impl.ExpCore) impl.ExpCore {
	if c.Sort != impl.CoreConst && c.Text != "" && m.below(4) == 0 {
		c.Text = m.name()
	}
	c.Names = append([]string(nil), c.Names...)
	for i := range c.Names {
		if m.below(4) == 0 {
			c.Names[i] = m.name()
		}
	}
	c.Kids = append([]impl.ExpCore(nil), c.Kids...)
	for i := range c.Kids {
		c.Kids[i] = m.reworded(c.Kids[i])
	}
	return c
}

func TestAlphaOfRenamed(t *testing.T) {
	m := coreMaker{formMaker{state: 9}}
	for range 500 {
		a := cores(m.wellMade(5), m.core(4))
		r := renamer{}
		b := cores(r.renamed(a[0], nil), r.renamed(a[1], nil))
		demandAlpha(t, a, b, true)
	}
}

// A list of Kids that is within itself has no text, and is nothing that could be gone through.
func TestCoresWithoutEnd(t *testing.T) {
	for _, parts := range []int{1, 2, 1000} {
		wheel := coreWheel(parts)
		if got := impl.ExpCoreShow(wheel[0]); got != "" {
			t.Errorf("%q", got)
		}
		if got := impl.ExpCoreShow(begin(konst("1"), wheel[0])); got != "" {
			t.Errorf("%q", got)
		}
		if impl.ExpAlpha(wheel, wheel) || impl.ExpAlpha(wheel, cores(konst("1"))) || impl.ExpAlpha(cores(konst("1")), wheel) {
			t.Error("a wheel is the same as something")
		}
	}
}

// Lists that are there more than once, or that share a beginning, are none within themselves.
func TestCoresThatShareKids(t *testing.T) {
	kids := cores(konst("1"), konst("2"))
	twice := begin(call(kids...), call(kids...), call(kids[:1]...))
	if got := impl.ExpCoreShow(twice); got != "(begin (1 2) (1 2) (1))" {
		t.Errorf("%q", got)
	}
	demandAlpha(t, cores(twice, twice), cores(twice, begin(call(konst("1"), konst("2")), call(kids...), call(konst("1")))), true)
	deep := make([]impl.ExpCore, 2)
	deep[0] = konst("1")
	deep[1] = call(deep[:1]...)
	if got := impl.ExpCoreShow(call(deep...)); got != "(1 (1))" {
		t.Errorf("%q", got)
	}
}

func TestCoresStayAsTheyAre(t *testing.T) {
	m := coreMaker{formMaker{state: 3}}
	for range 300 {
		a := cores(m.core(3), m.wellMade(3))
		b := cores((&renamer{}).renamed(a[0], nil), m.wellMade(3))
		roomA, roomB := roomyCores(a), roomyCores(b)
		impl.ExpAlpha(roomA, roomB)
		impl.ExpCoreShow(roomA[0])
		impl.ExpCoreShow(roomA[1])
		if !stayRoomyCores(roomA, a) || !stayRoomyCores(roomB, b) {
			t.Fatal("what was handed in is changed")
		}
	}
}

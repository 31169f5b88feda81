package tests

import (
	"slices"
	"strconv"

	"loop.example/siskin/impl"
)

func konst(text string) impl.ExpCore {
	return impl.ExpCore{Sort: impl.CoreConst, Text: text}
}

func ref(text string) impl.ExpCore {
	return impl.ExpCore{Sort: impl.CoreRef, Text: text}
}

func lambda(names []string, rest bool, kids ...impl.ExpCore) impl.ExpCore {
	return impl.ExpCore{Sort: impl.CoreLambda, Names: names, Rest: rest, Kids: kids}
}

func call(kids ...impl.ExpCore) impl.ExpCore {
	return impl.ExpCore{Sort: impl.CoreCall, Kids: kids}
}

func ifOf(kids ...impl.ExpCore) impl.ExpCore {
	return impl.ExpCore{Sort: impl.CoreIf, Kids: kids}
}

func set(text string, kids ...impl.ExpCore) impl.ExpCore {
	return impl.ExpCore{Sort: impl.CoreSet, Text: text, Kids: kids}
}

func begin(kids ...impl.ExpCore) impl.ExpCore {
	return impl.ExpCore{Sort: impl.CoreBegin, Kids: kids}
}

func rec(names []string, kids ...impl.ExpCore) impl.ExpCore {
	return impl.ExpCore{Sort: impl.CoreRec, Names: names, Kids: kids}
}

func define(text string, kids ...impl.ExpCore) impl.ExpCore {
	return impl.ExpCore{Sort: impl.CoreDefine, Text: text, Kids: kids}
}

func names(all ...string) []string {
	return all
}

func cores(all ...impl.ExpCore) []impl.ExpCore {
	return all
}

func sameCore(a, b impl.ExpCore) bool {
	return a.Sort == b.Sort && a.Text == b.Text && a.Rest == b.Rest && slices.Equal(a.Names, b.Names) && sameCores(a.Kids, b.Kids)
}

func sameCores(a, b []impl.ExpCore) bool {
	return slices.EqualFunc(a, b, sameCore)
}

// roomyCores is a copy whose lists all have room behind their ends, filled.
func roomyCores(all []impl.ExpCore) []impl.ExpCore {
	room := make([]impl.ExpCore, len(all), len(all)+2)
	for i, c := range all {
		c.Names = append(make([]string, 0, len(c.Names)+1), c.Names...)
		c.Names[:cap(c.Names)][len(c.Names)] = "spare"
		c.Kids = roomyCores(c.Kids)
		room[i] = c
	}
	for i := len(room); i < cap(room); i++ {
		room[:cap(room)][i] = impl.ExpCore{Sort: spare}
	}
	return room
}

// stayRoomyCores says whether what roomyCores made is still the copy, its room included.
func stayRoomyCores(room, all []impl.ExpCore) bool {
	if !sameCores(room, all) {
		return false
	}
	for _, c := range room[len(room):cap(room)] {
		if !sameCore(c, impl.ExpCore{Sort: spare}) {
			return false
		}
	}
	for i, c := range room {
		if c.Names[:cap(c.Names)][len(c.Names)] != "spare" || !stayRoomyCores(c.Kids, all[i].Kids) {
			return false
		}
	}
	return true
}

// coreMaker makes cores of any shape, also such as the table does not have, of few names, by numbers that follow a fixed rule.
type coreMaker struct {
	formMaker
}

func (m *coreMaker) core(deep int) impl.ExpCore {
	c := impl.ExpCore{Sort: m.below(11), Text: m.name(), Rest: m.below(4) == 0}
	if m.below(3) > 0 {
		for range m.below(4) {
			c.Names = append(c.Names, m.name())
		}
	}
	if deep > 0 {
		for range m.below(4) {
			c.Kids = append(c.Kids, m.core(deep-1))
		}
	}
	return c
}

func (m *coreMaker) name() string {
	return "abc"[m.below(3):][:1]
}

// wellMade is a core as the table has it, whose names are all bound by what is around, or free.
func (m *coreMaker) wellMade(deep int) impl.ExpCore {
	if deep == 0 {
		return []impl.ExpCore{konst("1"), ref(m.name()), ref(m.name())}[m.below(3)]
	}
	switch m.below(8) {
	case 0:
		return ref(m.name())
	case 1, 2:
		return lambda(names(m.name(), m.name()), m.below(2) == 0, m.wellMade(deep-1))
	case 3:
		return ifOf(m.wellMade(deep-1), m.wellMade(deep-1))
	case 4:
		return set(m.name(), m.wellMade(deep-1))
	case 5:
		return rec(names(m.name()), m.wellMade(deep-1), m.wellMade(deep-1))
	case 6:
		return define(m.name(), m.wellMade(deep-1))
	}
	return call(m.wellMade(deep-1), m.wellMade(deep-1))
}

// renamer gives bound names new texts, in step with what they stand for.
type renamer struct {
	count int
}

func (r *renamer) renamed(c impl.ExpCore, around map[string]string) impl.ExpCore {
	if to, bound := around[c.Text]; bound && (c.Sort == impl.CoreRef || c.Sort == impl.CoreSet || c.Sort == impl.CoreDefine) {
		c.Text = to
	}
	within := map[string]string{}
	for from, to := range around {
		within[from] = to
	}
	var fresh []string
	for _, name := range c.Names {
		r.count++
		within[name] = name + "~" + strconv.Itoa(r.count)
		fresh = append(fresh, within[name])
	}
	c.Names = fresh
	var kids []impl.ExpCore
	for _, kid := range c.Kids {
		kids = append(kids, r.renamed(kid, within))
	}
	c.Kids = kids
	return c
}

// wantAlpha is the document's words of ExpAlpha, with the pairs of names in order.
func wantAlpha(a, b []impl.ExpCore, pairs [][2]string) bool {
	if len(a) != len(b) {
		return false
	}
	for i := range a {
		one, other := a[i], b[i]
		if one.Sort != other.Sort || one.Rest != other.Rest || len(one.Names) != len(other.Names) || len(one.Kids) != len(other.Kids) {
			return false
		}
		names := one.Sort == impl.CoreRef || one.Sort == impl.CoreSet || one.Sort == impl.CoreDefine
		if names && !wantSameName(one.Text, other.Text, pairs) || !names && one.Text != other.Text {
			return false
		}
		within := slices.Clone(pairs)
		for j := range one.Names {
			within = append(within, [2]string{one.Names[j], other.Names[j]})
		}
		if !wantAlpha(one.Kids, other.Kids, within) {
			return false
		}
	}
	return true
}

func wantSameName(one, other string, pairs [][2]string) bool {
	for i := len(pairs) - 1; i >= 0; i-- {
		if pairs[i][0] == one || pairs[i][1] == other {
			return pairs[i][0] == one && pairs[i][1] == other
		}
	}
	return one == other
}

// coreWheel is a list of so many calls, each of which has the list itself as its Kids.
func coreWheel(parts int) []impl.ExpCore {
	kids := make([]impl.ExpCore, parts)
	for i := range kids {
		kids[i] = call(kids...)
	}
	return kids
}

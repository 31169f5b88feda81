package tests

import (
	"slices"

	"loop.example/siskin/impl"
)

// What chapter 3 of the document says of patterns and templates, written down word by word, to hold the program against.

func sameId(a, b impl.ExpForm) bool {
	return a.Sort == impl.ExpId && b.Sort == impl.ExpId && a.Text == b.Text && slices.Equal(a.Scopes, b.Scopes)
}

func hasId(ids []impl.ExpForm, id impl.ExpForm) bool {
	return slices.ContainsFunc(ids, func(other impl.ExpForm) bool { return sameId(id, other) })
}

func isDotsId(f impl.ExpForm) bool {
	return f.Sort == impl.ExpId && f.Text == "..."
}

func isBlankId(f impl.ExpForm) bool {
	return f.Sort == impl.ExpId && f.Text == "_"
}

func isAnyList(f impl.ExpForm) bool {
	return f.Sort == impl.ExpList || f.Sort == impl.ExpDots
}

// partsAndEnd are a list's parts and its end; an ExpList has none, and what is no list is an end.
func partsAndEnd(f impl.ExpForm) ([]impl.ExpForm, []impl.ExpForm) {
	switch f.Sort {
	case impl.ExpList:
		return f.Kids, nil
	case impl.ExpDots:
		last := len(f.Kids) - 1
		return f.Kids[:last], f.Kids[last:]
	}
	return nil, []impl.ExpForm{f}
}

// joined is the list of parts that ends so.
func joined(parts, end []impl.ExpForm) impl.ExpForm {
	switch {
	case len(end) == 0:
		return list(parts...)
	case len(parts) == 0:
		return end[0]
	case isAnyList(end[0]):
		return impl.ExpForm{Sort: end[0].Sort, Kids: slices.Concat(parts, end[0].Kids)}
	}
	return dots(slices.Concat(parts, end)...)
}

func namesOf(p impl.ExpForm, literals []impl.ExpForm) []impl.ExpForm {
	return slices.DeleteFunc(identifiers(p), func(id impl.ExpForm) bool {
		return isDotsId(id) || isBlankId(id) || hasId(literals, id)
	})
}

func wantPatternOk(p impl.ExpForm, literals []impl.ExpForm) bool {
	for _, l := range literals {
		if !impl.ExpFormOk(l) || l.Sort != impl.ExpId || isDotsId(l) || isBlankId(l) {
			return false
		}
	}
	if !impl.ExpFormOk(p) || isDotsId(p) || !dotsWhereTheyMayBe(p) {
		return false
	}
	names := namesOf(p, literals)
	for i, name := range names {
		if hasId(names[:i], name) {
			return false
		}
	}
	return true
}

func dotsWhereTheyMayBe(p impl.ExpForm) bool {
	if !isAnyList(p) {
		return true
	}
	parts, end := partsAndEnd(p)
	met := 0
	for i, part := range parts {
		if isDotsId(part) {
			met++
		}
		if isDotsId(part) && i == 0 || !dotsWhereTheyMayBe(part) {
			return false
		}
	}
	return met < 2 && (len(end) == 0 || !isDotsId(end[0]))
}

// comparing says whether a literal and an identifier stand for the same.
type comparing func(literal, id impl.ExpForm) bool

func comparingBy(binds []impl.ExpBind) comparing {
	return func(literal, id impl.ExpForm) bool {
		a, x := impl.ExpFind(binds, literal)
		b, y := impl.ExpFind(binds, id)
		return x == y && (x == 1 && a == b || x == 0 && literal.Text == id.Text)
	}
}

// wantMatch is what ExpMatch must answer, the pattern and the form being ok.
func wantMatch(p impl.ExpForm, literals []impl.ExpForm, f impl.ExpForm, same comparing) ([]impl.ExpGot, bool) {
	switch {
	case hasId(literals, p):
		return nil, f.Sort == impl.ExpId && same(p, f)
	case isBlankId(p):
		return nil, true
	case p.Sort == impl.ExpId:
		return []impl.ExpGot{{Name: p, Form: f}}, true
	case p.Sort == impl.ExpAtom:
		return nil, f.Sort == impl.ExpAtom && p.Text == f.Text
	}
	parts, end := partsAndEnd(p)
	given, rest := partsAndEnd(f)
	if at := slices.IndexFunc(parts, isDotsId); at > 0 {
		return wantMatchRepeated(parts[:at-1], parts[at-1], parts[at+1:], end, given, rest, literals, same)
	}
	if len(given) < len(parts) || len(end) == 0 && (len(rest) > 0 || len(given) > len(parts)) {
		return nil, false
	}
	all, ok := wantMatchEach(parts, given[:len(parts)], literals, same)
	if !ok || len(end) == 0 {
		return all, ok
	}
	last, ok := wantMatch(end[0], literals, joined(given[len(parts):], rest), same)
	return append(all, last...), ok
}

func wantMatchEach(parts, given, literals []impl.ExpForm, same comparing) ([]impl.ExpGot, bool) {
	var all []impl.ExpGot
	for i, part := range parts {
		some, ok := wantMatch(part, literals, given[i], same)
		if !ok {
			return nil, false
		}
		all = append(all, some...)
	}
	return all, true
}

func wantMatchRepeated(ahead []impl.ExpForm, part impl.ExpForm, behind, end, given, rest, literals []impl.ExpForm, same comparing) ([]impl.ExpGot, bool) {
	times := len(given) - len(ahead) - len(behind)
	if times < 0 || len(end) == 0 && len(rest) > 0 {
		return nil, false
	}
	all, aheadOk := wantMatchEach(ahead, given[:len(ahead)], literals, same)
	if !aheadOk {
		return nil, false
	}
	several := noTimes(part, literals)
	for _, f := range given[len(ahead) : len(ahead)+times] {
		time, ok := wantMatch(part, literals, f, same)
		if !ok {
			return nil, false
		}
		for i := range several {
			several[i].Many = append(several[i].Many, time[i])
		}
	}
	others, behindOk := wantMatchEach(behind, given[len(ahead)+times:], literals, same)
	all = append(append(all, several...), others...)
	if !behindOk || len(end) == 0 {
		return all, behindOk
	}
	last, ok := wantMatch(end[0], literals, joined(nil, rest), same)
	return append(all, last...), ok
}

// noTimes is what the names of a repeated part have got ahead of the first time.
func noTimes(part impl.ExpForm, literals []impl.ExpForm) []impl.ExpGot {
	if part.Sort == impl.ExpId {
		var all []impl.ExpGot
		for _, name := range namesOf(part, literals) {
			all = append(all, impl.ExpGot{Name: name, Deep: 1})
		}
		return all
	}
	var all []impl.ExpGot
	for i, kid := range part.Kids {
		some := noTimes(kid, literals)
		if i+1 < len(part.Kids) && isDotsId(part.Kids[i+1]) {
			for j := range some {
				some[j].Deep++
			}
		}
		all = append(all, some...)
	}
	return all
}

// wantFill is what ExpFill must make, but for the limits, the template and got being ok.
func wantFill(t impl.ExpForm, gots []impl.ExpGot, escaped bool) (impl.ExpForm, bool) {
	if t.Sort == impl.ExpId {
		g := firstOf(gots, t)
		if g == nil {
			return t, true
		}
		return g.Form, g.Deep == 0
	}
	if t.Sort == impl.ExpAtom {
		return t, true
	}
	if t.Sort == impl.ExpList && len(t.Kids) == 2 && isDotsId(t.Kids[0]) && !escaped {
		return wantFill(t.Kids[1], gots, true)
	}
	parts, end := partsAndEnd(t)
	var made []impl.ExpForm
	for at := 0; at < len(parts); {
		part, n := parts[at], 0
		if isDotsId(part) && !escaped {
			return impl.ExpForm{}, false
		}
		for at++; at < len(parts) && isDotsId(parts[at]) && !escaped; at++ {
			n++
		}
		some, ok := wantFillPart(part, n, gots, escaped)
		if !ok {
			return impl.ExpForm{}, false
		}
		made = append(made, some...)
	}
	if len(end) == 0 {
		return list(made...), true
	}
	last, ok := wantFill(end[0], gots, escaped)
	return joined(made, []impl.ExpForm{last}), ok
}

func firstOf(gots []impl.ExpGot, name impl.ExpForm) *impl.ExpGot {
	for i := range gots {
		if sameId(gots[i].Name, name) {
			return &gots[i]
		}
	}
	return nil
}

func wantFillPart(part impl.ExpForm, n int, gots []impl.ExpGot, escaped bool) ([]impl.ExpForm, bool) {
	if n == 0 {
		f, ok := wantFill(part, gots, escaped)
		return []impl.ExpForm{f}, ok
	}
	var several []impl.ExpGot
	for _, name := range namesOf(part, nil) {
		if g := firstOf(gots, name); g != nil && g.Deep > 0 {
			several = append(several, *g)
		}
	}
	if len(several) == 0 {
		return nil, false
	}
	for _, g := range several {
		if len(g.Many) != len(several[0].Many) {
			return nil, false
		}
	}
	var made []impl.ExpForm
	for time := range several[0].Many {
		var inner []impl.ExpGot
		for _, g := range several {
			at := g.Many[time]
			inner = append(inner, impl.ExpGot{Name: g.Name, Deep: at.Deep, Form: at.Form, Many: at.Many})
		}
		some, ok := wantFillPart(part, n-1, append(inner, gots...), escaped)
		if !ok {
			return nil, false
		}
		made = append(made, some...)
	}
	return made, true
}

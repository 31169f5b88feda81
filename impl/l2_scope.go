package impl

import (
	"cmp"
	"slices"
)

// ExpWith is a form to all of whose identifiers a scope is put.
func ExpWith(f ExpForm, scope int) ExpForm {
	return rescoped(f, scope, withScope)
}

// ExpFlip is a form to each of whose identifiers a scope is put, or from which it is taken.
func ExpFlip(f ExpForm, scope int) ExpForm {
	return rescoped(f, scope, flippedBy)
}

// ExpBind is a name that stands for identifiers of a text and of scopes.
type ExpBind struct {
	Text   string
	Scopes []int
	Name   string
}

// ExpFind finds what an identifier stands for: 0 nothing, 1 a name, 2 two names of which none is nearer.
func ExpFind(binds []ExpBind, id ExpForm) (string, int) {
	if id.Sort != ExpId {
		return "", 0
	}
	return boundNamesOf(binds).find(id.Text, setOf(id.Scopes))
}

// rescoped is a form whose identifiers have other scopes; nothing, if it is not ok, or the scope is none.
func rescoped(f ExpForm, scope int, change func(form, int) form) ExpForm {
	inner, ok := openForm(f)
	if !ok || scope < 0 {
		return ExpForm{}
	}
	return change(inner, scope).plain()
}

// withScope answers as ExpWith does.
func withScope(f form, scope int) form {
	return f.changed(func(id formId) formId {
		id.scopes = id.scopes.with(scope)
		return id
	})
}

// flippedBy answers as ExpFlip does.
func flippedBy(f form, scope int) form {
	return f.changed(func(id formId) formId {
		id.scopes = id.scopes.flipped(scope)
		return id
	})
}

// areScopes says whether scopes stand as an identifier that is ok has them.
func areScopes(scopes []int) bool {
	return isAscending(scopes) && (len(scopes) == 0 || scopes[0] >= 0)
}

// boundName is one of the names that a text may stand for.
type boundName struct {
	scopes sortedSet[int]
	name   string
}

// boundNames has, by text, the names that were bound to it, in order.
type boundNames map[string][]boundName

func boundNamesOf(binds []ExpBind) boundNames {
	bound := boundNames{}
	for _, b := range binds {
		bound[b.Text] = append(bound[b.Text], boundName{scopes: setOf(b.Scopes), name: b.Name})
	}
	return bound
}

// find answers as ExpFind does.
func (b boundNames) find(text string, scopes sortedSet[int]) (string, int) {
	var fits []boundName
	for _, bound := range b[text] {
		if bound.scopes.within(scopes) {
			fits = append(fits, bound)
		}
	}
	if len(fits) == 0 {
		return "", 0
	}
	nearest := nearestOf(fits)
	for _, bound := range fits {
		if !bound.scopes.within(nearest.scopes) {
			return "", 2
		}
	}
	return nearest.name, 1
}

// same says whether two identifiers stand for the same name, or, having the same text, both for nothing.
func (b boundNames) same(one, other formId) bool {
	name, found := b.find(one.text, one.scopes)
	otherName, otherFound := b.find(other.text, other.scopes)
	if found != otherFound || found == 2 {
		return false
	}
	if found == 1 {
		return name == otherName
	}
	return one.text == other.text
}

// nearestOf is the last of those with the most scopes: if one has all scopes of all others, this one does.
func nearestOf(fits []boundName) boundName {
	nearest := fits[0]
	for _, bound := range fits {
		if bound.scopes.size() >= nearest.scopes.size() {
			nearest = bound
		}
	}
	return nearest
}

// sortedSet has its items ascending. Sets share a list of items, as none writes into it: one that changes has a list of its own.
type sortedSet[T cmp.Ordered] struct {
	items []T
}

// setOf is the set of a list in whatever order, which stays as it is.
func setOf[T cmp.Ordered](list []T) sortedSet[T] {
	if isAscending(list) {
		return sortedSet[T]{items: list}
	}
	items := slices.Clone(list)
	slices.Sort(items)
	return sortedSet[T]{items: slices.Compact(items)}
}

func isAscending[T cmp.Ordered](list []T) bool {
	for i := 1; i < len(list); i++ {
		if list[i-1] >= list[i] {
			return false
		}
	}
	return true
}

func (s sortedSet[T]) size() int {
	return len(s.items)
}

// list is a new list of the set's items.
func (s sortedSet[T]) list() []T {
	return append([]T(nil), s.items...)
}

func (s sortedSet[T]) with(item T) sortedSet[T] {
	at, has := slices.BinarySearch(s.items, item)
	if has {
		return s
	}
	return sortedSet[T]{items: slices.Concat(s.items[:at], []T{item}, s.items[at:])}
}

func (s sortedSet[T]) flipped(item T) sortedSet[T] {
	at, has := slices.BinarySearch(s.items, item)
	if has {
		return sortedSet[T]{items: slices.Concat(s.items[:at], s.items[at+1:])}
	}
	return s.with(item)
}

// within says whether the other set has all items of this one.
func (s sortedSet[T]) within(other sortedSet[T]) bool {
	for _, item := range s.items {
		if _, has := slices.BinarySearch(other.items, item); !has {
			return false
		}
	}
	return true
}

// same says whether both sets have the same items.
func (s sortedSet[T]) same(other sortedSet[T]) bool {
	return slices.Equal(s.items, other.items)
}

// without is the items of this set that the other one does not have.
func (s sortedSet[T]) without(other sortedSet[T]) sortedSet[T] {
	return sortedSet[T]{items: slices.DeleteFunc(s.list(), func(item T) bool {
		_, has := slices.BinarySearch(other.items, item)
		return has
	})}
}

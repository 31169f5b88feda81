package tests

import (
	"slices"
	"strconv"
	"strings"

	"loop.example/siskin/impl"
)

// read is the one form of a text.
func read(text string) impl.ExpForm {
	forms, ok := impl.ExpRead(text)
	if !ok || len(forms) != 1 {
		panic("no form: " + text)
	}
	return forms[0]
}

// readAll is the forms of a text.
func readAll(text string) []impl.ExpForm {
	forms, ok := impl.ExpRead(text)
	if !ok {
		panic("no forms: " + text)
	}
	return forms
}

// got is what a name got, once.
func got(name, f impl.ExpForm) impl.ExpGot {
	return impl.ExpGot{Name: name, Form: f}
}

// gotMany is what a name got several times; one that got nothing has a Deep of 1.
func gotMany(name impl.ExpForm, many ...impl.ExpGot) impl.ExpGot {
	deep := 1
	if len(many) > 0 {
		deep = many[0].Deep + 1
	}
	return impl.ExpGot{Name: name, Deep: deep, Many: many}
}

// gotAll is what a name got, the forms of a text, one each time.
func gotAll(name impl.ExpForm, text string) impl.ExpGot {
	var many []impl.ExpGot
	for _, f := range readAll(text) {
		many = append(many, got(name, f))
	}
	return gotMany(name, many...)
}

// gotDeep is what a name got in so many repeated parts, each of which was there once.
func gotDeep(name, f impl.ExpForm, deep int) impl.ExpGot {
	g := got(name, f)
	for range deep {
		g = gotMany(name, g)
	}
	return g
}

func sameGot(a, b impl.ExpGot) bool {
	return sameForm(a.Name, b.Name) && a.Deep == b.Deep && sameForm(a.Form, b.Form) && sameGots(a.Many, b.Many)
}

func sameGots(a, b []impl.ExpGot) bool {
	return slices.EqualFunc(a, b, sameGot)
}

// showGots tells what names got: a=1 for one form, b:1[2 3] for several.
func showGots(gots []impl.ExpGot) string {
	var all []string
	for _, g := range gots {
		if g.Deep == 0 {
			all = append(all, g.Name.Text+"="+impl.ExpShow(g.Form))
		} else {
			all = append(all, g.Name.Text+":"+strconv.Itoa(g.Deep)+showMany(g))
		}
	}
	return strings.Join(all, " ")
}

func showMany(g impl.ExpGot) string {
	if g.Deep == 0 {
		return impl.ExpShow(g.Form)
	}
	var all []string
	for _, time := range g.Many {
		all = append(all, showMany(time))
	}
	return "[" + strings.Join(all, " ") + "]"
}

// roomyForms, roomyGots and roomyBinds are copies whose lists all have room behind their ends, filled.
func roomyForms(forms []impl.ExpForm) []impl.ExpForm {
	return roomy(list(forms...)).Kids
}

func staysRoomyForms(room, forms []impl.ExpForm) bool {
	return staysRoomy(list(room...), list(forms...)) && spareForms(room)
}

func spareForms(room []impl.ExpForm) bool {
	for _, f := range room[len(room):cap(room)] {
		if !sameForm(f, impl.ExpForm{Sort: spare}) {
			return false
		}
	}
	return true
}

func roomyGots(gots []impl.ExpGot) []impl.ExpGot {
	room := make([]impl.ExpGot, 0, len(gots)+2)
	for _, g := range gots {
		room = append(room, impl.ExpGot{Name: roomy(g.Name), Deep: g.Deep, Form: roomy(g.Form), Many: roomyGots(g.Many)})
	}
	for i := len(room); i < cap(room); i++ {
		room[:cap(room)][i] = impl.ExpGot{Deep: spare}
	}
	return room
}

func staysRoomyGots(room, gots []impl.ExpGot) bool {
	if !sameGots(room, gots) {
		return false
	}
	for _, g := range room[len(room):cap(room)] {
		if !sameGot(g, impl.ExpGot{Deep: spare}) {
			return false
		}
	}
	for i, g := range room {
		if !staysRoomy(g.Name, gots[i].Name) || !staysRoomy(g.Form, gots[i].Form) || !staysRoomyGots(g.Many, gots[i].Many) {
			return false
		}
	}
	return true
}

func roomyBinds(binds []impl.ExpBind) []impl.ExpBind {
	room := make([]impl.ExpBind, 0, len(binds)+2)
	for _, b := range binds {
		room = append(room, impl.ExpBind{Text: b.Text, Scopes: roomyScopes(b.Scopes), Name: b.Name})
	}
	for i := len(room); i < cap(room); i++ {
		room[:cap(room)][i] = impl.ExpBind{Text: "spare"}
	}
	return room
}

func staysRoomyBinds(room, binds []impl.ExpBind) bool {
	for i, b := range room {
		if b.Text != binds[i].Text || b.Name != binds[i].Name || !slices.Equal(b.Scopes, binds[i].Scopes) || !staysRoomyScopes(b.Scopes) {
			return false
		}
	}
	for _, b := range room[len(room):cap(room)] {
		if b.Text != "spare" || b.Name != "" || len(b.Scopes) > 0 {
			return false
		}
	}
	return len(room) == len(binds)
}

func blocksOfGots(gots []impl.ExpGot) []block {
	all := blockOf(gots)
	for _, g := range gots {
		all = append(all, blocksWithin(g.Name)...)
		all = append(all, blocksWithin(g.Form)...)
		all = append(all, blocksOfGots(g.Many)...)
	}
	return all
}

func blocksOfBinds(binds []impl.ExpBind) []block {
	all := blockOf(binds)
	for _, b := range binds {
		all = append(all, blockOf(b.Scopes)...)
	}
	return all
}

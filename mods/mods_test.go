package mods

import (
	"math"
	"math/rand"
	"slices"
	"strconv"
	"strings"
	"testing"

	"bothy/api"
	"bothy/rules"
	"bothy/schema"
)

// at tells an attribute.
func at(name string, values ...string) api.Attr {
	return api.Attr{Type: name, Values: values}
}

// of tells an entry.
func of(name string, attrs ...api.Attr) api.Entry {
	return api.Entry{DN: name, Attrs: attrs}
}

// adding, deleting and replacing tell mods.
func adding(name string, values ...string) api.Mod {
	return api.Mod{Op: api.ModAdd, Attr: at(name, values...)}
}

func deleting(name string, values ...string) api.Mod {
	return api.Mod{Op: api.ModDelete, Attr: at(name, values...)}
}

func replacing(name string, values ...string) api.Mod {
	return api.Mod{Op: api.ModReplace, Attr: at(name, values...)}
}

// odd tells a mod whose op is none.
func odd(op int, name string, values ...string) api.Mod {
	return api.Mod{Op: op, Attr: at(name, values...)}
}

// by tells a list of mods.
func by(l ...api.Mod) []api.Mod { return l }

// isEntry tells whether both are the same, just as they stand.
func isEntry(a, b api.Entry) bool {
	return a.DN == b.DN && slices.EqualFunc(a.Attrs, b.Attrs, func(a, b api.Attr) bool {
		return a.Type == b.Type && slices.Equal(a.Values, b.Values)
	})
}

// copied tells e with memory of its own.
func copied(e api.Entry) api.Entry {
	var attrs []api.Attr
	for _, a := range e.Attrs {
		attrs = append(attrs, at(a.Type, slices.Clone(a.Values)...))
	}
	return of(e.DN, attrs...)
}

// short tells e as it stands in a message.
func short(e api.Entry) string {
	s := strconv.Quote(e.DN)
	for _, a := range e.Attrs {
		s += " " + a.Type
		for _, value := range a.Values[:min(5, len(a.Values))] {
			s += " " + strconv.Quote(value[:min(20, len(value))])
		}
		s += " (" + strconv.Itoa(len(a.Values)) + ")"
	}
	return s
}

// codeOf tells the code of these mods, and fails if beside one that is not Success anything else is told.
func codeOf(t *testing.T, s *schema.Schema, e api.Entry, l []api.Mod) int {
	t.Helper()
	got, code := Apply(s, e, l)
	if code != api.Success && !isEntry(got, api.Entry{}) {
		t.Errorf("beside code %d: %s", code, short(got))
	}
	return code
}

// person is the entry of most tests: it is clean.
func person() api.Entry {
	return of("cn=a,dc=b", at("cn", "a", "Al  Ko"), at("mail", "m"), at("objectclass", "person"), at("sn", "b", "C", "d"))
}

// with tells that entry with these attributes in place of its own ones; those without values are not there.
func with(attrs ...api.Attr) api.Entry {
	e := person()
	for _, a := range attrs {
		e.Attrs = slices.DeleteFunc(e.Attrs, func(own api.Attr) bool { return own.Type == a.Type })
		if len(a.Values) > 0 {
			e.Attrs = append(e.Attrs, a)
		}
	}
	slices.SortFunc(e.Attrs, func(a, b api.Attr) int { return strings.Compare(a.Type, b.Type) })
	return e
}

// made are mods of person, and what becomes of it.
var made = []struct {
	what string
	l    []api.Mod
	want api.Entry
}{
	{"no mods", nil, person()},
	{"no mods, a list of none", by(), person()},

	{"a value of what was not there", by(adding("uid", "u")), with(at("uid", "u"))},
	{"values of what was not there, as they stand", by(adding("description", "B  b", " a ", "C")), with(at("description", "B  b", " a ", "C"))},
	{"a value behind the others", by(adding("sn", "a")), with(at("sn", "b", "C", "d", "a"))},
	{"values behind the others, in their order", by(adding("sn", "z", "a", "Y")), with(at("sn", "b", "C", "d", "z", "a", "Y"))},
	{"a type in great letters", by(adding("SN", "x"), adding("UserPassword", "P")), with(at("sn", "b", "C", "d", "x"), at("userpassword", "P"))},
	{"a second value of a type that has one at most", by(adding("uid", "u"), adding("uid", "v")), with(at("uid", "u", "v"))},
	{"two values of a type that has one at most", by(adding("uid", "u", "v")), with(at("uid", "u", "v"))},
	{"what no class has", by(adding("dc", "x"), adding("ou", "y")), with(at("dc", "x"), at("ou", "y"))},
	{"a class that is none", by(adding("objectClass", "nothing")), with(at("objectclass", "person", "nothing"))},
	{"an octet that is empty", by(adding("userpassword", "")), with(at("userpassword", ""))},
	{"octets in other letters", by(adding("userpassword", "p", "P", " p", "p ")), with(at("userpassword", "p", "P", " p", "p "))},
	{"exact values in other letters", by(adding("serialnumber", "a", "A")), with(at("serialnumber", "a", "A"))},
	{"numbers as they stand", by(adding("uidnumber", "007", "-0")), with(at("uidnumber", "007", "-0"))},
	{"names as they stand", by(adding("member", "CN = A", "", "dc=b")), with(at("member", "CN = A", "", "dc=b"))},

	{"an attribute is gone", by(deleting("sn")), with(at("sn"))},
	{"an attribute in great letters is gone", by(deleting("Mail", []string{}...)), with(at("mail"))},
	{"the classes are gone", by(deleting("objectclass")), with(at("objectclass"))},
	{"the first value is gone", by(deleting("sn", "b")), with(at("sn", "C", "d"))},
	{"one between others is gone", by(deleting("sn", "C")), with(at("sn", "b", "d"))},
	{"the last one is gone", by(deleting("SN", "d")), with(at("sn", "b", "C"))},
	{"one in other letters is gone", by(deleting("sn", " c ")), with(at("sn", "b", "d"))},
	{"one with other blanks is gone", by(deleting("cn", "AL KO")), with(at("cn", "a"))},
	{"two are gone", by(deleting("sn", "d", "b")), with(at("sn", "C"))},
	{"all values are gone", by(deleting("sn", "d", "c", "B")), with(at("sn"))},
	{"the one value is gone", by(deleting("mail", "M")), with(at("mail"))},

	{"other values", by(replacing("sn", "x", "B", "a")), with(at("sn", "x", "B", "a"))},
	{"the same values in another order", by(replacing("SN", "d", "c", "b")), with(at("sn", "d", "c", "b"))},
	{"the same values", by(replacing("sn", "b", "C", "d")), person()},
	{"other values of what was not there", by(replacing("uid", "v", "u")), with(at("uid", "v", "u"))},
	{"no other values", by(replacing("sn")), with(at("sn"))},
	{"no other values, a list of none", by(replacing("sN", []string{}...)), with(at("sn"))},
	{"no values of what was not there", by(replacing("uid")), person()},
	{"an octet that is empty in place of none", by(replacing("userpassword", "")), with(at("userpassword", ""))},

	{"each op, one behind the other", by(adding("description", "x"), deleting("MAIL", "M"), replacing("cn", "z")), with(at("description", "x"), at("mail"), at("cn", "z"))},
	{"what was put in is gone again", by(adding("uid", "u"), deleting("uid", "U")), person()},
	{"what is gone is put in again", by(deleting("sn"), adding("sn", "b")), with(at("sn", "b"))},
	{"a value that is gone is put in behind the others", by(deleting("sn", "b"), adding("sn", "B")), with(at("sn", "C", "d", "B"))},
	{"what took its place is gone", by(replacing("sn", "x"), deleting("sn", "x")), with(at("sn"))},
	{"a value behind what took its place", by(replacing("sn", "x"), adding("sn", "b")), with(at("sn", "x", "b"))},
	{"a place taken twice", by(replacing("sn", "x"), replacing("Sn", "y")), with(at("sn", "y"))},
	{"the same value one behind the other", by(adding("mail", "x"), deleting("mail", "x"), adding("mail", "x"), deleting("mail", "m")), with(at("mail", "x"))},
	{"nothing is left", by(deleting("cn"), deleting("mail"), deleting("objectclass"), deleting("sn")), of("cn=a,dc=b")},
}

func TestApply(t *testing.T) {
	for _, c := range made {
		got, code := Apply(schema.Plain(), person(), c.l)
		if code != api.Success || !isEntry(got, c.want) {
			t.Errorf("%s: %s, %d", c.what, short(got), code)
		}
	}
}

// codes are mods of person, none of which may be.
var codes = []struct {
	what string
	m    api.Mod
	want int
}{
	{"no such type", adding("zz", "a"), api.UndefinedType},
	{"no such type, no values", adding("zz"), api.UndefinedType},
	{"no such type to delete", deleting("zz"), api.UndefinedType},
	{"no such type to delete a value of", deleting("zz", "a"), api.UndefinedType},
	{"no such type to replace", replacing("zz", "a"), api.UndefinedType},
	{"no such type to replace by none", replacing("zz"), api.UndefinedType},
	{"no such type, a value twice", replacing("zz", "a", "a"), api.UndefinedType},
	{"no such type, and no such op", odd(3, "zz", "a"), api.UndefinedType},
	{"no type", replacing("", "a"), api.UndefinedType},
	{"a class is no type", adding("person", "a"), api.UndefinedType},
	{"a star", deleting("*"), api.UndefinedType},
	{"a type with a blank", deleting("sn "), api.UndefinedType},
	{"a type with a byte of none", deleting("sn\x00"), api.UndefinedType},

	{"no value of a number", adding("uidnumber", "x"), api.InvalidSyntax},
	{"no value of a number to delete", deleting("uidnumber", "x"), api.InvalidSyntax},
	{"no value of a number to replace by", replacing("uidnumber", "x"), api.InvalidSyntax},
	{"a value that is empty", adding("sn", ""), api.InvalidSyntax},
	{"a value that is empty to delete", deleting("sn", ""), api.InvalidSyntax},
	{"a value that is empty to replace by", replacing("sn", ""), api.InvalidSyntax},
	{"blanks alone", adding("sn", "  "), api.InvalidSyntax},
	{"blanks alone to delete, of exact values", deleting("serialnumber", " "), api.InvalidSyntax},
	{"what is no name", adding("member", "x"), api.InvalidSyntax},
	{"what is no name to delete", deleting("member", "x"), api.InvalidSyntax},
	{"a wrong one behind one that may be", adding("uidnumber", "1", "x"), api.InvalidSyntax},
	{"a wrong one ahead of one that may be", adding("uidnumber", "x", "1"), api.InvalidSyntax},
	{"a wrong one beside one that is there", adding("sn", "b", ""), api.InvalidSyntax},
	{"a wrong one beside one twice", adding("mail", "x", "x", ""), api.InvalidSyntax},
	{"a wrong one beside one twice to replace by", replacing("mail", "x", "x", ""), api.InvalidSyntax},
	{"a wrong one beside one that is not there", deleting("sn", "x", ""), api.InvalidSyntax},
	{"a wrong one of what is not there", deleting("uid", ""), api.InvalidSyntax},
	{"a wrong one, and no such op", odd(3, "sn", ""), api.InvalidSyntax},

	{"no values", adding("sn"), api.Constraint},
	{"no values, a list of none", adding("sn", []string{}...), api.Constraint},
	{"no values of what is not there", adding("uid"), api.Constraint},

	{"one that is there", adding("sn", "b"), api.AttrExists},
	{"the last one that is there", adding("sn", "d"), api.AttrExists},
	{"one that is there in other letters", adding("SN", "D"), api.AttrExists},
	{"one that is there with other blanks", adding("cn", " al ko "), api.AttrExists},
	{"one that is there behind one that is not", adding("sn", "x", "b"), api.AttrExists},
	{"one that is there ahead of one that is not", adding("sn", "b", "x"), api.AttrExists},
	{"a class that is there", adding("objectclass", "Person"), api.AttrExists},
	{"one twice", adding("uid", "u", "u"), api.AttrExists},
	{"one twice in other letters", adding("uid", "u", "U"), api.AttrExists},
	{"one twice with another between", adding("uid", "u", "v", " u"), api.AttrExists},
	{"a number twice", adding("uidnumber", "7", "007"), api.AttrExists},
	{"nought twice", adding("uidnumber", "0", "-0"), api.AttrExists},
	{"an octet twice", adding("userpassword", "p", "p"), api.AttrExists},
	{"an octet that is empty twice", adding("userpassword", "", ""), api.AttrExists},
	{"an exact one twice", adding("serialnumber", "a", " a "), api.AttrExists},
	{"a name twice", adding("member", "cn=a,dc=b", "CN=A , DC=b"), api.AttrExists},
	{"a name that is empty twice", adding("member", "", ""), api.AttrExists},
	{"one twice to replace by", replacing("sn", "x", "X"), api.AttrExists},
	{"one that is there, twice to replace by", replacing("sn", "b", "b"), api.AttrExists},
	{"a number twice to replace by", replacing("uidnumber", "1", "2", "01"), api.AttrExists},

	{"an attribute that is not there", deleting("uid"), api.NoAttribute},
	{"an attribute that is not there, a list of none", deleting("uid", []string{}...), api.NoAttribute},
	{"a value of an attribute that is not there", deleting("uid", "u"), api.NoAttribute},
	{"a value that is not there", deleting("sn", "x"), api.NoAttribute},
	{"a part of a value", deleting("cn", "al"), api.NoAttribute},
	{"one that is not there behind one that is", deleting("sn", "b", "x"), api.NoAttribute},
	{"one that is not there ahead of one that is", deleting("sn", "x", "b"), api.NoAttribute},
	{"one twice that is there once", deleting("sn", "b", "b"), api.NoAttribute},
	{"one twice, in other letters, that is there once", deleting("sn", "c", "d", "C"), api.NoAttribute},
	{"more than there are", deleting("mail", "m", "n"), api.NoAttribute},

	{"no such op", odd(3, "sn", "x"), api.ProtocolError},
	{"no such op, no values", odd(3, "sn"), api.ProtocolError},
	{"no such op of what is not there", odd(3, "uid"), api.ProtocolError},
	{"no such op of one that is there", odd(3, "sn", "b"), api.ProtocolError},
	{"no such op of one twice", odd(3, "sn", "x", "x"), api.ProtocolError},
	{"an op below 0", odd(-1, "sn", "x"), api.ProtocolError},
	{"the least op", odd(math.MinInt, "sn", "x"), api.ProtocolError},
	{"the greatest op", odd(math.MaxInt, "sn", "x"), api.ProtocolError},
	{"the zero mod", api.Mod{}, api.UndefinedType},
}

// TestCodes holds each code of a mod alone, behind one that may be, and ahead of others.
func TestCodes(t *testing.T) {
	s := schema.Plain()
	fine := replacing("description", "d")
	for _, c := range codes {
		for place, l := range [][]api.Mod{by(c.m), by(fine, c.m), by(c.m, fine), by(fine, c.m, odd(9, "sn")), by(c.m, adding("zz"))} {
			if got := codeOf(t, s, person(), l); got != c.want {
				t.Errorf("%s, list %d: %d", c.what, place, got)
			}
		}
	}
}

// TestFirst holds that of two codes the first mod's one is told.
func TestFirst(t *testing.T) {
	s := schema.Plain()
	for _, a := range codes {
		for _, b := range codes {
			if got := codeOf(t, s, person(), by(a.m, b.m)); got != a.want {
				t.Errorf("%s, then %s: %d", a.what, b.what, got)
			}
		}
	}
}

// TestBehind holds codes that hang on what mods ahead have made.
func TestBehind(t *testing.T) {
	s := schema.Plain()
	for _, c := range []struct {
		what string
		l    []api.Mod
		want int
	}{
		{"put in twice", by(adding("uid", "u"), adding("uid", "U")), api.AttrExists},
		{"put in behind what took the place", by(replacing("sn", "x"), adding("SN", "X")), api.AttrExists},
		{"gone twice", by(deleting("sn"), deleting("sn")), api.NoAttribute},
		{"a value gone twice", by(deleting("sn", "b"), deleting("sn", "b")), api.NoAttribute},
		{"gone once all values are", by(deleting("mail", "m"), deleting("mail")), api.NoAttribute},
		{"gone once replaced by none", by(replacing("mail"), deleting("mail")), api.NoAttribute},
		{"a value gone once replaced", by(replacing("sn", "x"), deleting("sn", "b")), api.NoAttribute},
		{"replaced by none twice", by(replacing("mail"), replacing("mail")), api.Success},
		{"no values of what is gone", by(deleting("mail"), adding("mail")), api.Constraint},
	} {
		if got := codeOf(t, s, person(), c.l); got != c.want {
			t.Errorf("%s: %d", c.what, got)
		}
	}
}

// TestOps holds that numbers beside those of the ops are none.
func TestOps(t *testing.T) {
	s := schema.Plain()
	list := []int{3, 4, -1, -2, -3, 255, 256, 257, 258, math.MaxInt32, math.MinInt32, math.MaxInt, math.MinInt}
	wide := 1
	wide <<= 31
	for i := range 3 {
		// Where an int has 32 bits these are the ops themselves.
		if op := wide<<1 + i; op > 2 {
			list = append(list, op)
		}
	}
	for _, op := range list {
		for _, values := range [][]string{nil, {"b"}, {"x"}, {"x", "x"}} {
			if got := codeOf(t, s, person(), by(odd(op, "sn", values...))); got != api.ProtocolError {
				t.Errorf("op %d of %q: %d", op, values, got)
			}
		}
	}
}

// TestHowMany holds the edge of 64 mods.
func TestHowMany(t *testing.T) {
	s := schema.Plain()
	var l []api.Mod
	var values []string
	for i := range 64 {
		values = append(values, "v"+strconv.Itoa(i))
		l = append(l, adding("description", values[i]))
	}
	got, code := Apply(s, person(), l)
	if want := with(at("description", values...)); code != api.Success || !isEntry(got, want) {
		t.Errorf("64 mods: %s, %d", short(got), code)
	}
	for _, n := range []int{65, 66, 128, 1 << 16} {
		for what, m := range map[string]api.Mod{"that may be": replacing("sn", "x"), "that may not": odd(3, "zz"), "that are zero": {}} {
			if got := codeOf(t, s, person(), slices.Repeat(by(m), n)); got != api.Unwilling {
				t.Errorf("%d mods %s: %d", n, what, got)
			}
		}
	}
	if got := codeOf(t, s, person(), append(l[:63:63], odd(3, "sn"))); got != api.ProtocolError {
		t.Errorf("64 mods, the last one wrong: %d", got)
	}
	if got := codeOf(t, nil, person(), slices.Repeat(by(replacing("sn", "x")), 65)); got != api.Other {
		t.Errorf("65 mods without a schema: %d", got)
	}
}

// TestClean holds that all is done on what is clean, whatever is handed in.
func TestClean(t *testing.T) {
	s := schema.Plain()
	e := of(" CN=A ", at("SN", "b"), at("zz", "z"), at("mail"), at("sn", "a", "b", "B"), at("Cn", "x"), at("", "none"))
	rest := []api.Attr{at("", "none"), at("cn", "x")}
	all := func(attrs ...api.Attr) api.Entry { return of(" CN=A ", slices.Concat(rest, attrs)...) }
	zz := at("zz", "z")
	for _, c := range []struct {
		what string
		l    []api.Mod
		want api.Entry
	}{
		{"no mods", nil, all(at("sn", "b", "a", "B"), zz)},
		{"a value behind", by(adding("sn", "c")), all(at("sn", "b", "a", "B", "c"), zz)},
		{"a value of what has none", by(adding("mail", "m")), all(at("mail", "m"), at("sn", "b", "a", "B"), zz)},
		{"all attributes of a type are gone", by(deleting("sn")), all(zz)},
		{"the first one that counts as the value is gone", by(deleting("sn", "B")), all(at("sn", "a", "B"), zz)},
		{"two that count as the same are gone", by(deleting("sn", "b", "b")), all(at("sn", "a"), zz)},
		{"two that count as the same are gone, one by one", by(deleting("sn", "B"), deleting("sn", "B")), all(at("sn", "a"), zz)},
		{"all are gone", by(deleting("sn", "b", "A", "b")), all(zz)},
		{"others in place", by(replacing("Sn", "x")), all(at("sn", "x"), zz)},
	} {
		got, code := Apply(s, e, c.l)
		if code != api.Success || !isEntry(got, c.want) {
			t.Errorf("%s: %s, %d", c.what, short(got), code)
		}
	}
	for _, c := range []struct {
		what string
		m    api.Mod
		want int
	}{
		{"an attribute without values", deleting("mail"), api.NoAttribute},
		{"more than count as the same", deleting("sn", "b", "B", "b"), api.NoAttribute},
		{"one of another attribute of its type", adding("sn", "A"), api.AttrExists},
		{"what the entry has, and the schema has not", deleting("zz"), api.UndefinedType},
		{"no type, which the entry has", deleting(""), api.UndefinedType},
	} {
		if got := codeOf(t, s, e, by(c.m)); got != c.want {
			t.Errorf("%s: %d", c.what, got)
		}
	}
	got, code := Apply(s, api.Entry{}, nil)
	if code != api.Success || !isEntry(got, api.Entry{}) {
		t.Errorf("the zero entry: %s, %d", short(got), code)
	}
	got, code = Apply(s, api.Entry{}, by(adding("Sn", "b")))
	if code != api.Success || !isEntry(got, of("", at("sn", "b"))) {
		t.Errorf("the zero entry, and a value: %s, %d", short(got), code)
	}
}

// TestNoValues holds that values of the entry that are none by their rule count as nothing, but stay.
func TestNoValues(t *testing.T) {
	s := schema.Plain()
	e := of("x", at("member", "no name", "cn=a"), at("sn", " ", "b", ""), at("uidnumber", "x", "7", "y"))
	keep := func(i int, a api.Attr) api.Entry {
		c := copied(e)
		c.Attrs[i] = a
		return c
	}
	for _, c := range []struct {
		what string
		m    api.Mod
		want api.Entry
	}{
		{"a value behind them", adding("uidnumber", "8"), keep(2, at("uidnumber", "x", "7", "y", "8"))},
		{"one between them is gone", deleting("uidnumber", "07"), keep(2, at("uidnumber", "x", "y"))},
		{"others in place of them", replacing("uidnumber", "8"), keep(2, at("uidnumber", "8"))},
		{"one between blanks and nothing is gone", deleting("sn", "B"), keep(1, at("sn", " ", ""))},
		{"a name behind", adding("member", "cn=b"), keep(0, at("member", "no name", "cn=a", "cn=b"))},
		{"a name that is empty behind", adding("member", ""), keep(0, at("member", "no name", "cn=a", ""))},
	} {
		got, code := Apply(s, e, by(c.m))
		if code != api.Success || !isEntry(got, c.want) {
			t.Errorf("%s: %s, %d", c.what, short(got), code)
		}
	}
	for _, m := range []api.Mod{deleting("member", ""), deleting("uidnumber", "0"), deleting("sn", "c")} {
		if got := codeOf(t, s, e, by(m)); got != api.NoAttribute {
			t.Errorf("%q: %d", m.Attr, got)
		}
	}
	for _, m := range []api.Mod{deleting("member", "no name"), deleting("uidnumber", "x"), deleting("sn", " "), adding("sn", "")} {
		if got := codeOf(t, s, e, by(m)); got != api.InvalidSyntax {
			t.Errorf("%q: %d", m.Attr, got)
		}
	}
	got, code := Apply(s, of("x", at("uidnumber", "x")), by(deleting("uidNumber")))
	if code != api.Success || !isEntry(got, of("x")) {
		t.Errorf("all of what is none: %s, %d", short(got), code)
	}
}

// TestEdges holds the longest values, and those that are longer.
func TestEdges(t *testing.T) {
	s := schema.Plain()
	for _, c := range []struct {
		name, most, more string
	}{
		{"sn", strings.Repeat("a", 4096), strings.Repeat("a", 4097)},
		{"sn", strings.Repeat(" ", 4095) + "a", strings.Repeat(" ", 4096) + "a"},
		{"serialnumber", strings.Repeat("A", 4096), strings.Repeat("A", 4097)},
		{"userpassword", strings.Repeat("\xff", 4096), strings.Repeat("\xff", 4097)},
		{"uidnumber", strings.Repeat("9", 32), strings.Repeat("9", 33)},
		{"uidnumber", "-" + strings.Repeat("0", 32), "-" + strings.Repeat("0", 33)},
		{"member", strings.Repeat("a=v,", 31) + "a=v", strings.Repeat("a=v,", 32) + "a=v"},
	} {
		e := of("x", at("cn", "x"))
		for _, m := range []api.Mod{adding(c.name, c.most), replacing(c.name, c.most)} {
			got, code := Apply(s, e, by(m))
			if code != api.Success || !isEntry(got, of("x", at("cn", "x"), at(c.name, c.most))) {
				t.Errorf("the longest of %s, op %d: %s, %d", c.name, m.Op, short(got), code)
			}
			got, code = Apply(s, e, by(m, deleting(c.name, c.most)))
			if code != api.Success || !isEntry(got, e) {
				t.Errorf("the longest of %s, gone again: %s, %d", c.name, short(got), code)
			}
		}
		for op := range 3 {
			if got := codeOf(t, s, e, by(odd(op, c.name, c.more))); got != api.InvalidSyntax {
				t.Errorf("a longer one of %s, op %d: %d", c.name, op, got)
			}
		}
	}
}

// own tells a schema whose types have each rule, with great letters in their names.
func own(t *testing.T) *schema.Schema {
	t.Helper()
	list := []api.Type{{Name: "ObjectClass", Rule: api.RuleOctet}}
	for rule := api.RuleIgnore; rule <= api.RuleDN; rule++ {
		list = append(list, api.Type{Name: "By-" + strconv.Itoa(rule), Rule: rule, Single: true})
	}
	s, err := schema.New(list, nil)
	if err != api.OK {
		t.Fatalf("New: %d", err)
	}
	return s
}

// TestRules holds, for each rule, which values are the same.
func TestRules(t *testing.T) {
	s := own(t)
	values := []string{"", " ", "a", "A", " a ", "a  b", "a b", "0", "-0", "00", "7", "-7", "cn=a", "CN=a", "cn = a", "cn=a,dc=b", "\x00", "\xff", `cn=\00`, strings.Repeat("a", 4097)}
	for rule := api.RuleIgnore; rule <= api.RuleDN; rule++ {
		name := "BY-" + strconv.Itoa(rule)
		for _, a := range values {
			for _, b := range values {
				e := of("x", at(name, a))
				_, isA := rules.Norm(rule, a)
				_, isB := rules.Norm(rule, b)
				same := rules.Equal(rule, a, b) == api.True
				want := [3]int{api.Success, api.NoAttribute, api.Success}
				switch {
				case !isB:
					want = [3]int{api.InvalidSyntax, api.InvalidSyntax, api.InvalidSyntax}
				case same:
					want = [3]int{api.AttrExists, api.Success, api.Success}
				}
				for op := range 3 {
					if got := codeOf(t, s, e, by(odd(op, name, b))); got != want[op] {
						t.Errorf("rule %d, op %d of %.20q where %.20q is: %d", rule, op, b, a, got)
					}
				}
				both := api.Success
				switch {
				case !isA || !isB:
					both = api.InvalidSyntax
				case same:
					both = api.AttrExists
				}
				for _, op := range []int{api.ModAdd, api.ModReplace} {
					if got := codeOf(t, s, of("x"), by(odd(op, name, a, b))); got != both {
						t.Errorf("rule %d, op %d of %.20q, %.20q: %d", rule, op, a, b, got)
					}
				}
			}
		}
	}
}

// TestNil holds that without a schema nothing is told but Other, and that the zero one has no types.
func TestNil(t *testing.T) {
	for _, e := range []api.Entry{{}, person(), of("\xff", at("zz"))} {
		for _, c := range codes {
			if got := codeOf(t, nil, e, by(c.m)); got != api.Other {
				t.Errorf("nil, %s: %d", c.what, got)
			}
			if got := codeOf(t, &schema.Schema{}, e, by(c.m)); got != api.UndefinedType {
				t.Errorf("zero, %s: %d", c.what, got)
			}
		}
		for _, l := range [][]api.Mod{nil, {}} {
			if got := codeOf(t, nil, e, l); got != api.Other {
				t.Errorf("nil, no mods: %d", got)
			}
		}
	}
	got, code := Apply(&schema.Schema{}, person(), nil)
	if code != api.Success || !isEntry(got, person()) {
		t.Errorf("zero, no mods: %s, %d", short(got), code)
	}
}

// roomy tells a list of values with room behind them.
func roomy(values ...string) []string { return append(make([]string, 0, 16), values...) }

// TestMemory holds that what is handed in stays as it is, and that what is told is no part of it.
func TestMemory(t *testing.T) {
	s := schema.Plain()
	for _, c := range made {
		e := person()
		e.Attrs = append(make([]api.Attr, 0, 16), e.Attrs...)
		for i, a := range e.Attrs {
			e.Attrs[i].Values = roomy(a.Values...)
		}
		l := append(make([]api.Mod, 0, 16), c.l...)
		for i, m := range l {
			l[i].Attr.Values = roomy(m.Attr.Values...)
		}
		got, _ := Apply(s, e, l)
		for i, a := range got.Attrs[:cap(got.Attrs)] {
			for k := range a.Values[:cap(a.Values)] {
				a.Values[:cap(a.Values)][k] = "spoilt"
			}
			got.Attrs[:cap(got.Attrs)][i] = at("spoilt", "spoilt")
		}
		if !isEntry(e, person()) {
			t.Errorf("%s: the entry has become %s", c.what, short(e))
		}
		for i, m := range l {
			if m.Op != c.l[i].Op || m.Attr.Type != c.l[i].Attr.Type || !slices.Equal(m.Attr.Values, c.l[i].Attr.Values) {
				t.Errorf("%s: mod %d has become %q", c.what, i, m.Attr)
			}
			for _, value := range m.Attr.Values[:cap(m.Attr.Values)] {
				if value == "spoilt" {
					t.Errorf("%s: mod %d shares memory with what is told", c.what, i)
				}
			}
		}
	}
}

// TestMany holds that many values are put in, and taken away, without each being held against all others.
func TestMany(t *testing.T) {
	s := schema.Plain()
	const many = 1 << 15
	values := make([]string, many)
	for i := range values {
		values[i] = "Value " + strconv.Itoa(i)
	}
	back := slices.Clone(values)
	slices.Reverse(back)
	got, code := Apply(s, of("x"), by(adding("sn", values...)))
	if code != api.Success || !isEntry(got, of("x", at("sn", values...))) {
		t.Errorf("many put in: %s, %d", short(got), code)
	}
	got, code = Apply(s, got, by(deleting("sn", back[1:]...), adding("sn", back[1:]...), replacing("mail", values...), deleting("mail", back...)))
	if code != api.Success || !isEntry(got, of("x", at("sn", back...))) {
		t.Errorf("many taken away, and put in: %s, %d", short(got), code)
	}
	if got := codeOf(t, s, of("x", at("sn", values...)), by(deleting("sn", append(back, back[0])...))); got != api.NoAttribute {
		t.Errorf("one more than there are: %d", got)
	}
	if got := codeOf(t, s, of("x"), by(replacing("sn", append(back, " vALUE   7 ")...))); got != api.AttrExists {
		t.Errorf("one twice among many: %d", got)
	}
}

// plain is an entry as the chapter's words have it: values by the type, none without values.
type plain map[string][]string

// plainOf tells e so.
func plainOf(e api.Entry) plain {
	p := plain{}
	for _, a := range e.Attrs {
		name := strings.ToLower(a.Type)
		for _, value := range a.Values {
			if !slices.Contains(p[name], value) {
				p[name] = append(p[name], value)
			}
		}
	}
	return p
}

// entry tells p as an entry.
func (p plain) entry(name string) api.Entry {
	e := of(name)
	for kind, values := range p {
		if len(values) > 0 {
			e.Attrs = append(e.Attrs, at(kind, values...))
		}
	}
	slices.SortFunc(e.Attrs, func(a, b api.Attr) int { return strings.Compare(a.Type, b.Type) })
	return e
}

// first tells where the first of list stands that is Equal to value, -1 of none.
func first(rule int, list []string, value string) int {
	return slices.IndexFunc(list, func(own string) bool { return rules.Equal(rule, own, value) == api.True })
}

// apply does one mod as the words say it, and tells its code.
func (p plain) apply(s *schema.Schema, m api.Mod) int {
	name := strings.ToLower(m.Attr.Type)
	kind, ok := s.Type(name)
	if !ok {
		return api.UndefinedType
	}
	twice := false
	for i, value := range m.Attr.Values {
		if _, ok := rules.Norm(kind.Rule, value); !ok {
			return api.InvalidSyntax
		}
		twice = twice || first(kind.Rule, m.Attr.Values[:i], value) >= 0
	}
	switch m.Op {
	case api.ModAdd:
		if len(m.Attr.Values) == 0 {
			return api.Constraint
		}
		for _, value := range m.Attr.Values {
			if twice || first(kind.Rule, p[name], value) >= 0 {
				return api.AttrExists
			}
		}
		p[name] = append(p[name], m.Attr.Values...)
	case api.ModDelete:
		if len(m.Attr.Values) == 0 {
			if len(p[name]) == 0 {
				return api.NoAttribute
			}
			p[name] = nil
		}
		for _, value := range m.Attr.Values {
			i := first(kind.Rule, p[name], value)
			if i < 0 {
				return api.NoAttribute
			}
			p[name] = slices.Delete(p[name], i, i+1)
		}
	case api.ModReplace:
		if twice {
			return api.AttrExists
		}
		p[name] = slices.Clone(m.Attr.Values)
	default:
		return api.ProtocolError
	}
	return api.Success
}

// some tells up to most of list, by chance.
func some(r *rand.Rand, most int, list ...string) []string {
	var out []string
	for range r.Intn(most + 1) {
		out = append(out, list[r.Intn(len(list))])
	}
	return out
}

// chance tells an attribute of the plain schema, or nearly one.
func chance(r *rand.Rand) api.Attr {
	switch r.Intn(12) {
	case 0, 1, 2:
		return at([]string{"sn", "SN"}[r.Intn(2)], some(r, 4, "a", "A", "b", " B", "a b", "A  B", "c")...)
	case 3, 4, 5:
		return at("serialNumber", some(r, 4, "a", "A", " a ", "b")...)
	case 6, 7:
		return at("uidnumber", some(r, 3, "0", "-0", "7", "07", "-7")...)
	case 8, 9:
		return at("member", some(r, 3, "", "cn=a", "CN=A", "cn = a", "cn=b")...)
	case 10:
		return at("userpassword", some(r, 3, "", "p", "P")...)
	}
	return at([]string{"uidnumber", "sn", "member", "zz"}[r.Intn(4)], some(r, 2, "x", "", "1")...)
}

// TestChance holds whatever comes by chance against the chapter's words.
func TestChance(t *testing.T) {
	s := schema.Plain()
	told := map[int]int{}
	r := rand.New(rand.NewSource(21))
	for range 60000 {
		var e api.Entry
		for range r.Intn(6) {
			e.Attrs = append(e.Attrs, chance(r))
		}
		var l []api.Mod
		for range r.Intn(5) {
			op := r.Intn(3)
			if r.Intn(40) == 0 {
				op = 3
			}
			l = append(l, api.Mod{Op: op, Attr: chance(r)})
		}
		p := plainOf(e)
		want := api.Success
		for _, m := range l {
			if want = p.apply(s, m); want != api.Success {
				p = plain{}
				break
			}
		}
		got, code := Apply(s, e, l)
		if code != want || !isEntry(got, p.entry("")) {
			t.Fatalf("%q, %v: %s, %d, not %s, %d", e, l, short(got), code, short(p.entry("")), want)
		}
		told[code]++
	}
	for _, code := range []int{api.Success, api.UndefinedType, api.InvalidSyntax, api.Constraint, api.AttrExists, api.NoAttribute, api.ProtocolError} {
		if told[code] < 200 {
			t.Errorf("code %d has come %d times", code, told[code])
		}
	}
}

package entry

import (
	"math"
	"slices"
	"strconv"
	"strings"
	"testing"

	"bothy/api"
	"bothy/rules"
)

// at tells an attribute.
func at(name string, values ...string) api.Attr {
	return api.Attr{Type: name, Values: values}
}

// of tells an entry of this name, with attributes.
func of(name string, attrs ...api.Attr) api.Entry {
	return api.Entry{DN: name, Attrs: attrs}
}

// isEntry tells whether two entries are the same as they stand; lists that are empty are.
func isEntry(a, b api.Entry) bool {
	return a.DN == b.DN && slices.EqualFunc(a.Attrs, b.Attrs, func(x, y api.Attr) bool {
		return x.Type == y.Type && slices.Equal(x.Values, y.Values)
	})
}

// copied tells e in memory of its own.
func copied(e api.Entry) api.Entry {
	out := api.Entry{DN: e.DN}
	for _, a := range e.Attrs {
		out.Attrs = append(out.Attrs, at(a.Type, slices.Clone(a.Values)...))
	}
	return out
}

// other is bytes that are no UTF-8.
const other = "\xff\xc3"

var cleans = []struct {
	what    string
	e, want api.Entry
}{
	{"the zero entry", api.Entry{}, api.Entry{}},
	{"lists that are empty", api.Entry{DN: "x", Attrs: []api.Attr{}}, of("x")},
	{"one attribute", of("cn=a", at("cn", "a")), of("cn=a", at("cn", "a"))},
	{"a name that is not normal", of(" CN = A , dc=B", at("cn", "a")), of(" CN = A , dc=B", at("cn", "a"))},
	{"what is no name", of("\x00"+other, at("cn", "a")), of("\x00"+other, at("cn", "a"))},
	{"great letters", of("x", at("objectClass", "Top")), of("x", at("objectclass", "Top"))},
	{"all letters", of("x", at("ABCDEFGHIJKLMNOPQRSTUVWXYZ", "A")), of("x", at("abcdefghijklmnopqrstuvwxyz", "A"))},
	{"no order", of("x", at("sn", "1"), at("cn", "2"), at("o", "3")), of("x", at("cn", "2"), at("o", "3"), at("sn", "1"))},
	{"an order by great letters", of("x", at("Z", "1"), at("a", "2"), at("B", "3")), of("x", at("a", "2"), at("b", "3"), at("z", "1"))},
	{"an order by bytes", of("x", at("ab", "1"), at("a", "2"), at("a-", "3"), at("a0", "4"), at("A_", "5"), at("\xff", "6"), at("\u00e4", "7"), at("", "8"), at("aa", "9")),
		of("x", at("", "8"), at("a", "2"), at("a-", "3"), at("a0", "4"), at("a_", "5"), at("aa", "9"), at("ab", "1"), at("\u00e4", "7"), at("\xff", "6"))},
	{"a type twice", of("x", at("cn", "b"), at("sn", "s"), at("CN", "a")), of("x", at("cn", "b", "a"), at("sn", "s"))},
	{"a type three times", of("x", at("Cn", "3", "1"), at("cN", "2"), at("cn", "1", "0")), of("x", at("cn", "3", "1", "2", "0"))},
	{"a value twice", of("x", at("cn", "a", "b", "a", "c", "b")), of("x", at("cn", "a", "b", "c"))},
	{"a value in two attributes of one type", of("x", at("cn", "b", "a"), at("CN", "a", "c", "b")), of("x", at("cn", "b", "a", "c"))},
	{"a value in two attributes of two types", of("x", at("sn", "a"), at("cn", "a")), of("x", at("cn", "a"), at("sn", "a"))},
	{"values that count as the same", of("x", at("cn", "a", "A", " a", "a ", "")), of("x", at("cn", "a", "A", " a", "a ", ""))},
	{"numbers that count as the same", of("x", at("uidnumber", "7", "007", "-0", "0")), of("x", at("uidnumber", "7", "007", "-0", "0"))},
	{"values that do not rise", of("x", at("cn", "c", "a", "b")), of("x", at("cn", "c", "a", "b"))},
	{"values that are no texts", of("x", at("cn", "\xff", "\xfe", "\xff", "\uFFFD", "\x00", "")), of("x", at("cn", "\xff", "\xfe", "\uFFFD", "\x00", ""))},
	{"a value that is empty", of("x", at("cn", "")), of("x", at("cn", ""))},
	{"no values", of("x", at("cn")), of("x")},
	{"no values, of length 0", of("x", api.Attr{Type: "cn", Values: []string{}}), of("x")},
	{"no values between others", of("x", at("sn", "1"), at("cn"), at("a", "2"), at("b")), of("x", at("a", "2"), at("sn", "1"))},
	{"no values ahead of some of one type", of("x", at("cn"), at("CN", "a"), at("Cn")), of("x", at("cn", "a"))},
	{"types that are none", of("x", at("", "1"), at(" cn", "2"), at("cn ", "3"), at("*", "4")), of("x", at("", "1"), at(" cn", "2"), at("*", "4"), at("cn ", "3"))},
	{"letters that are not A to Z", of("x", at("\u212a", "1"), at("\u00c4A", "2"), at(other+"A", "3"), at("k", "4")), of("x", at("k", "4"), at("\u00c4a", "2"), at("\u212a", "1"), at(other+"a", "3"))},
	{"a type that is long", of("x", at(strings.Repeat("A", 1<<16), "1"), at(strings.Repeat("a", 1<<16), "2")), of("x", at(strings.Repeat("a", 1<<16), "1", "2"))},
}

func TestClean(t *testing.T) {
	for _, c := range cleans {
		if got := Clean(c.e); !isEntry(got, c.want) {
			t.Errorf("Clean of %s: %.200q", c.what, got)
		}
		if got := Clean(c.want); !isEntry(got, c.want) {
			t.Errorf("Clean of Clean of %s: %.200q", c.what, got)
		}
	}
}

// some is an entry that is not clean.
var some = of("CN=a", at("sn", "s", "t"), at("CN", "b", "a", "b"), at("o"), at("Mail", ""), at("cn", "c", "a"), at("*", "star"), at("", "none"))

func TestGet(t *testing.T) {
	for _, c := range []struct {
		attr string
		want []string
	}{
		{"cn", []string{"b", "a", "c"}},
		{"CN", []string{"b", "a", "c"}},
		{"Cn", []string{"b", "a", "c"}},
		{"sn", []string{"s", "t"}},
		{"SN", []string{"s", "t"}},
		{"mail", []string{""}},
		{"MAIL", []string{""}},
		{"*", []string{"star"}},
		{"", []string{"none"}},
		{"o", nil},
		{"uid", nil},
		{"c", nil},
		{"cnn", nil},
		{" cn", nil},
		{"cn ", nil},
		{"cn\x00", nil},
		{"\xff", nil},
		{strings.Repeat("cn", 1<<16), nil},
	} {
		if got := Get(some, c.attr); !slices.Equal(got, c.want) {
			t.Errorf("Get of %.20q: %q", c.attr, got)
		}
	}
	if got := Get(api.Entry{}, "cn"); len(got) != 0 {
		t.Errorf("Get of the zero entry: %q", got)
	}
	if got := Get(api.Entry{}, ""); len(got) != 0 {
		t.Errorf("Get of the zero entry, of no type: %q", got)
	}
	// A sign that unicode makes a k of is none of the letters.
	if got := Get(of("x", at("\u212a", "1")), "k"); len(got) != 0 {
		t.Errorf("Get of a sign that is no k: %q", got)
	}
}

var held = of("x",
	at("cn", "Al  Ko", "b"), at("CN", " last "),
	at("n", "x", "007", "-0", strings.Repeat("9", 33)),
	at("member", "not a name", "CN = A , dc=b"),
	at("long", strings.Repeat("a", 4097), strings.Repeat("b", 4096)),
	at("empty", ""), at("none"))

func TestHas(t *testing.T) {
	for _, c := range []struct {
		attr, value string
		rule        int
		want        bool
	}{
		{"cn", "Al  Ko", api.RuleIgnore, true},
		{"cn", "al ko", api.RuleIgnore, true},
		{"CN", " AL   KO ", api.RuleIgnore, true},
		{"cN", "B", api.RuleIgnore, true},
		{"cn", "LAST", api.RuleIgnore, true},
		{"cn", "alko", api.RuleIgnore, false},
		{"cn", "al", api.RuleIgnore, false},
		{"cn", "", api.RuleIgnore, false},
		{"cn", " ", api.RuleIgnore, false},
		{"cn", "Al Ko", api.RuleExact, true},
		{"cn", "  Al Ko ", api.RuleExact, true},
		{"cn", "al ko", api.RuleExact, false},
		{"cn", "last", api.RuleExact, true},
		{"cn", "Last", api.RuleExact, false},
		{"cn", "Al  Ko", api.RuleOctet, true},
		{"cn", "Al Ko", api.RuleOctet, false},
		{"cn", " last ", api.RuleOctet, true},
		{"cn", "last", api.RuleOctet, false},
		{"n", "7", api.RuleInt, true},
		{"N", "07", api.RuleInt, true},
		{"n", "0", api.RuleInt, true},
		{"n", "-7", api.RuleInt, false},
		{"n", "x", api.RuleInt, false}, // one that is there, but no number, is not the same as itself
		{"n", "x", api.RuleIgnore, true},
		{"n", strings.Repeat("9", 33), api.RuleInt, false},
		{"n", strings.Repeat("9", 33), api.RuleOctet, true},
		{"member", "cn=a,dc=b", api.RuleDN, true},
		{"Member", "CN=A,DC=B", api.RuleDN, true},
		{"member", "cn=a", api.RuleDN, false},
		{"member", "not a name", api.RuleDN, false},
		{"member", "NOT A NAME", api.RuleIgnore, true},
		{"member", "cn=a,dc=b", api.RuleIgnore, false},
		{"long", strings.Repeat("B", 4096), api.RuleIgnore, true},
		{"long", strings.Repeat("a", 4097), api.RuleIgnore, false}, // too long to be a value
		{"long", strings.Repeat("a", 4097), api.RuleOctet, false},
		{"empty", "", api.RuleOctet, true},
		{"empty", "", api.RuleDN, true},
		{"empty", "", api.RuleIgnore, false},
		{"empty", "", api.RuleExact, false},
		{"empty", "", api.RuleInt, false},
		{"empty", " ", api.RuleOctet, false},
		{"none", "", api.RuleOctet, false},
		{"uid", "", api.RuleOctet, false},
		{"", "", api.RuleOctet, false},
		{"cn ", "b", api.RuleIgnore, false},
		{"*", "b", api.RuleIgnore, false},
	} {
		if got := Has(held, c.attr, c.value, c.rule); got != c.want {
			t.Errorf("Has of %q, %.20q by %d: %t", c.attr, c.value, c.rule, got)
		}
	}
	for _, rule := range []int{0, -1, 6, 1<<32 + 1, math.MinInt, math.MaxInt} {
		if Has(held, "cn", "b", rule) {
			t.Errorf("Has by %d, which is no rule", rule)
		}
	}
	if Has(api.Entry{}, "cn", "", api.RuleOctet) {
		t.Error("the zero entry has a value")
	}
}

func TestWith(t *testing.T) {
	cn := at("cn", "a")
	for _, c := range []struct {
		what   string
		e      api.Entry
		attr   string
		values []string
		want   api.Entry
	}{
		{"the chapter's example", of("x"), "CN", []string{"a", "b"}, of("x", at("cn", "a", "b"))},
		{"values behind", of("x", cn), "cn", []string{"c", "b"}, of("x", at("cn", "a", "c", "b"))},
		{"values behind, in great letters", of("x", at("Cn", "a")), "cN", []string{"b"}, of("x", at("cn", "a", "b"))},
		{"another attribute ahead", of("x", cn), "b", []string{"1"}, of("x", at("b", "1"), cn)},
		{"another attribute behind", of("x", cn), "Sn", []string{"1"}, of("x", cn, at("sn", "1"))},
		{"a value that is there", of("x", at("cn", "a", "b")), "cn", []string{"b"}, of("x", at("cn", "a", "b"))},
		{"a value that is there, and another", of("x", at("cn", "a", "b")), "CN", []string{"b", "c", "a"}, of("x", at("cn", "a", "b", "c"))},
		{"a value twice", of("x", cn), "cn", []string{"b", "c", "b", "c"}, of("x", at("cn", "a", "b", "c"))},
		{"a value that counts as one that is there", of("x", cn), "cn", []string{"A", " a"}, of("x", at("cn", "a", "A", " a"))},
		{"no values", of("x", cn), "sn", nil, of("x", cn)},
		{"no values, of length 0", of("x", cn), "sn", []string{}, of("x", cn)},
		{"no values of what is there", of("x", cn), "cn", nil, of("x", cn)},
		{"no values of what has none", of("x", cn, at("sn")), "sn", nil, of("x", cn)},
		{"values of what has none", of("x", at("sn")), "SN", []string{"s"}, of("x", at("sn", "s"))},
		{"a value that is empty", of("x"), "cn", []string{""}, of("x", at("cn", ""))},
		{"a type that is empty", of("x", cn), "", []string{"1"}, of("x", at("", "1"), cn)},
		{"a star", of("x", cn), "*", []string{"1"}, of("x", at("*", "1"), cn)},
		{"what is not clean", of("X", at("SN", "s", "s"), at("o"), at("cn", "b"), at("CN", "a")), "Cn", []string{"a", "c"}, of("X", at("cn", "b", "a", "c"), at("sn", "s"))},
		{"what is not clean, and no values", of("X", at("SN", "s", "s"), at("o"), at("CN", "a")), "o", nil, of("X", at("cn", "a"), at("sn", "s"))},
		{"the zero entry", api.Entry{}, "", nil, api.Entry{}},
	} {
		if got := With(c.e, c.attr, c.values...); !isEntry(got, c.want) {
			t.Errorf("With of %s: %q", c.what, got)
		}
	}
	if got := Get(With(api.Entry{}, "CN", "a", "b"), "cn"); !slices.Equal(got, []string{"a", "b"}) {
		t.Errorf("Get of With: %q", got)
	}
}

func TestWithout(t *testing.T) {
	cn, sn := at("cn", "a", "b"), at("sn", "s")
	for _, c := range []struct {
		what string
		e    api.Entry
		attr string
		want api.Entry
	}{
		{"the first one", of("x", cn, sn), "cn", of("x", sn)},
		{"the last one", of("x", cn, sn), "sn", of("x", cn)},
		{"great letters", of("x", at("cN", "a"), sn), "Cn", of("x", sn)},
		{"the one that there is", of("x", cn), "cn", of("x")},
		{"one that is there more than once", of("x", cn, sn, at("CN", "c"), at("Cn")), "cn", of("x", sn)},
		{"one that is not there", of("x", cn, sn), "o", of("x", cn, sn)},
		{"one without values", of("x", cn, at("o")), "o", of("x", cn)},
		{"a part of one", of("x", cn, sn), "c", of("x", cn, sn)},
		{"more than one", of("x", cn, sn), "cnn", of("x", cn, sn)},
		{"a blank behind", of("x", cn), "cn ", of("x", cn)},
		{"a star", of("x", cn, sn), "*", of("x", cn, sn)},
		{"a star that is there", of("x", at("*", "1"), cn), "*", of("x", cn)},
		{"nothing", of("x", cn, sn), "", of("x", cn, sn)},
		{"nothing that is there", of("x", at("", "1"), cn), "", of("x", cn)},
		{"what is not clean", of("X", at("SN", "s", "s"), at("o"), at("CN", "b", "a"), at("cn", "b")), "l", of("X", at("cn", "b", "a"), sn)},
		{"the zero entry", api.Entry{}, "cn", api.Entry{}},
	} {
		if got := Without(c.e, c.attr); !isEntry(got, c.want) {
			t.Errorf("Without of %s: %q", c.what, got)
		}
	}
}

func TestSame(t *testing.T) {
	base := of("cn=a", at("cn", "a", "b"), at("sn", "s"))
	for _, c := range []struct {
		what string
		a, b api.Entry
		want bool
	}{
		{"itself", base, base, true},
		{"zero entries", api.Entry{}, api.Entry{}, true},
		{"lists that are empty", api.Entry{Attrs: []api.Attr{}}, api.Entry{}, true},
		{"another order of types", base, of("cn=a", at("sn", "s"), at("cn", "a", "b")), true},
		{"great letters in types", base, of("cn=a", at("CN", "a", "b"), at("Sn", "s")), true},
		{"a type in two", base, of("cn=a", at("cn", "a"), at("sn", "s"), at("Cn", "b")), true},
		{"a value twice", base, of("cn=a", at("cn", "a", "b", "a"), at("sn", "s", "s")), true},
		{"no values", base, of("cn=a", at("o"), at("cn", "a", "b"), at("sn", "s")), true},
		{"no values against nothing", of("x"), of("x", at("cn")), true},
		{"another name", base, of("cn=b", base.Attrs...), false},
		{"a name that counts as the same", base, of("CN=a", base.Attrs...), false},
		{"no name", base, of("", base.Attrs...), false},
		{"another order of values", base, of("cn=a", at("cn", "b", "a"), at("sn", "s")), false},
		{"another order of values, by two of a type", base, of("cn=a", at("cn", "b"), at("cn", "a"), at("sn", "s")), false},
		{"a value that counts as the same", base, of("cn=a", at("cn", "A", "b"), at("sn", "s")), false},
		{"a value less", base, of("cn=a", at("cn", "a"), at("sn", "s")), false},
		{"a value more", base, of("cn=a", at("cn", "a", "b", "c"), at("sn", "s")), false},
		{"a value that is empty more", base, of("cn=a", at("cn", "a", "b", ""), at("sn", "s")), false},
		{"an attribute less", base, of("cn=a", at("cn", "a", "b")), false},
		{"an attribute more", base, of("cn=a", at("cn", "a", "b"), at("sn", "s"), at("z", "s")), false},
		{"another type", base, of("cn=a", at("cn", "a", "b"), at("so", "s")), false},
		{"values changed about", of("x", at("a", "1"), at("b", "2")), of("x", at("a", "2"), at("b", "1")), false},
		{"a value of another one", of("x", at("a", "1", "2"), at("b", "3")), of("x", at("a", "1"), at("b", "2", "3")), false},
		{"an attribute against none", of("x", at("a", "")), of("x"), false},
	} {
		if got := Same(c.a, c.b); got != c.want {
			t.Errorf("Same of %s: %t", c.what, got)
		}
		if got := Same(c.b, c.a); got != c.want {
			t.Errorf("Same of %s, the other way about: %t", c.what, got)
		}
	}
}

func TestSelect(t *testing.T) {
	cn, mail, sn, star, none := at("cn", "b", "a", "c"), at("mail", ""), at("sn", "s", "t"), at("*", "star"), at("", "none")
	for _, c := range []struct {
		what  string
		attrs []string
		want  []api.Attr
	}{
		{"nil", nil, []api.Attr{none, star, cn, mail, sn}},
		{"an empty list", []string{}, []api.Attr{none, star, cn, mail, sn}},
		{"a star", []string{"*"}, []api.Attr{none, star, cn, mail, sn}},
		{"a star behind others", []string{"sn", "uid", "*"}, []api.Attr{none, star, cn, mail, sn}},
		{"a star ahead of others", []string{"*", "sn"}, []api.Attr{none, star, cn, mail, sn}},
		{"one", []string{"sn"}, []api.Attr{sn}},
		{"one in great letters", []string{"SN"}, []api.Attr{sn}},
		{"one that stands in great letters", []string{"cn"}, []api.Attr{cn}},
		{"two, in another order", []string{"sn", "Cn"}, []api.Attr{cn, sn}},
		{"one twice", []string{"cn", "CN", "cn"}, []api.Attr{cn}},
		{"one that is not there", []string{"uid"}, nil},
		{"one that is not there, and one that is", []string{"uid", "mail"}, []api.Attr{mail}},
		{"one without values", []string{"o"}, nil},
		{"nothing", []string{""}, []api.Attr{none}},
		{"no attributes, as others ask for them", []string{"1.1"}, nil},
		{"a star in a text", []string{"c*", "**", " *", "* ", "*cn"}, nil},
		{"a part of one", []string{"c", "n", "cnn", " cn", "cn ", "cn=", "cn;x"}, nil},
		{"no texts", []string{"\xff", "\x00", strings.Repeat("cn", 1<<16)}, nil},
	} {
		if got, want := Select(some, c.attrs, false), of("CN=a", c.want...); !isEntry(got, want) {
			t.Errorf("Select of %s: %q", c.what, got)
		}
		want := of("CN=a")
		for _, a := range c.want {
			want.Attrs = append(want.Attrs, at(a.Type))
		}
		if got := Select(some, c.attrs, true); !isEntry(got, want) {
			t.Errorf("Select of types of %s: %q", c.what, got)
		}
	}
	for _, types := range []bool{false, true} {
		if got := Select(api.Entry{}, []string{"cn"}, types); !isEntry(got, api.Entry{}) {
			t.Errorf("Select of the zero entry: %q", got)
		}
	}
}

// slowGet does what the chapter says of Get, in the plainest way.
func slowGet(e api.Entry, attr string) []string {
	var out []string
	for _, a := range e.Attrs {
		for _, value := range a.Values {
			if small(a.Type) == small(attr) && !slices.Contains(out, value) {
				out = append(out, value)
			}
		}
	}
	return out
}

// slowClean does what the chapter says of Clean, in the plainest way.
func slowClean(e api.Entry) api.Entry {
	var types []string
	for _, a := range e.Attrs {
		types = append(types, small(a.Type))
	}
	slices.Sort(types)
	out := api.Entry{DN: e.DN}
	for _, name := range slices.Compact(types) {
		if values := slowGet(e, name); len(values) > 0 {
			out.Attrs = append(out.Attrs, at(name, values...))
		}
	}
	return out
}

// kept tells e with those attributes alone whose types are such as asked for.
func kept(e api.Entry, keep func(name string) bool) api.Entry {
	out := api.Entry{DN: e.DN}
	for _, a := range e.Attrs {
		if keep(a.Type) {
			out.Attrs = append(out.Attrs, a)
		}
	}
	return out
}

// small tells s with a to z for A to Z.
func small(s string) string {
	return strings.Map(func(c rune) rune {
		if c >= 'A' && c <= 'Z' {
			return c + 32
		}
		return c
	}, s)
}

// pool is attributes out of which lists are made.
var pool = []api.Attr{at("a"), at("a", "1"), at("A", "2", "1"), at("b", "1", "1"), at("B", "", "x"), at("a-", "X"), at("", "1"), at("*", "2")}

// lists tells all lists of up to most of pool.
func lists(most int) [][]api.Attr {
	out := [][]api.Attr{nil}
	from := 0
	for range most {
		to := len(out)
		for _, list := range out[from:to] {
			for _, a := range pool {
				out = append(out, append(slices.Clone(list), a))
			}
		}
		from = to
	}
	return out
}

func TestAllOfPool(t *testing.T) {
	names := []string{"a", "A", "B", "a-", "", "*", "c"}
	for _, attrs := range lists(4) {
		e := of("CN=x", attrs...)
		clean := slowClean(e)
		if got := Clean(e); !isEntry(got, clean) {
			t.Fatalf("Clean of %q: %q", attrs, got)
		}
		if !Same(e, clean) || !Same(clean, e) {
			t.Fatalf("Same of %q and its Clean", attrs)
		}
		for _, name := range names {
			values := slowGet(e, name)
			if got := Get(e, name); !slices.Equal(got, values) {
				t.Fatalf("Get of %q, %q: %q", attrs, name, got)
			}
			for _, value := range []string{"x", "1", ""} {
				want := slices.ContainsFunc(values, func(s string) bool { return rules.Equal(api.RuleIgnore, s, value) == api.True })
				if got := Has(e, name, value, api.RuleIgnore); got != want {
					t.Fatalf("Has of %q, %q, %q: %t", attrs, name, value, got)
				}
			}
			for _, more := range [][]string{nil, {"1"}, {"2", "x", "2"}} {
				want := slowClean(of(e.DN, append(slices.Clone(attrs), at(name, more...))...))
				if got := With(e, name, more...); !isEntry(got, want) {
					t.Fatalf("With of %q, %q, %q: %q", attrs, name, more, got)
				}
			}
			want := kept(clean, func(s string) bool { return s != small(name) })
			if got := Without(e, name); !isEntry(got, want) {
				t.Fatalf("Without of %q, %q: %q", attrs, name, got)
			}
			want = kept(clean, func(s string) bool { return name == "*" || s == small(name) || s == "b" })
			if got := Select(e, []string{name, "B"}, false); !isEntry(got, want) {
				t.Fatalf("Select of %q, %q and B: %q", attrs, name, got)
			}
		}
	}
}

func TestSameOfPool(t *testing.T) {
	all := lists(2)
	for _, a := range all {
		for _, b := range all {
			want := isEntry(slowClean(of("x", a...)), slowClean(of("x", b...)))
			if got := Same(of("x", a...), of("x", b...)); got != want {
				t.Fatalf("Same of %q, %q: %t", a, b, got)
			}
		}
	}
}

// calls are all calls that tell an entry, with what each one is handed beside it.
var calls = map[string]func(e api.Entry, texts []string) api.Entry{
	"Clean":           func(e api.Entry, texts []string) api.Entry { return Clean(e) },
	"With":            func(e api.Entry, texts []string) api.Entry { return With(e, "CN", texts...) },
	"With of another": func(e api.Entry, texts []string) api.Entry { return With(e, "uid", texts...) },
	"Without":         func(e api.Entry, texts []string) api.Entry { return Without(e, "SN") },
	"Select":          func(e api.Entry, texts []string) api.Entry { return Select(e, texts, false) },
	"Select of all":   func(e api.Entry, texts []string) api.Entry { return Select(e, nil, false) },
	"Select of types": func(e api.Entry, texts []string) api.Entry { return Select(e, texts, true) },
	"Get": func(e api.Entry, texts []string) api.Entry {
		return of(e.DN, at("cn", Get(e, "CN")...), at("sn", Get(e, "sn")...))
	},
}

// spoil writes to all that e has, and behind it as far as its lists reach.
func spoil(e api.Entry) {
	for i := range e.Attrs[:cap(e.Attrs)] {
		values := e.Attrs[:cap(e.Attrs)][i].Values
		for k := range values[:cap(values)] {
			values[:cap(values)][k] = "spoilt"
		}
	}
	for i := range e.Attrs[:cap(e.Attrs)] {
		e.Attrs[:cap(e.Attrs)][i] = at("spoilt", "spoilt")
	}
}

// roomy tells an entry whose lists have room behind what stands in them.
func roomy(attrs ...api.Attr) api.Entry {
	e := api.Entry{DN: "x", Attrs: make([]api.Attr, 0, 8)}
	for _, a := range attrs {
		e.Attrs = append(e.Attrs, at(a.Type, append(make([]string, 0, 8), a.Values...)...))
	}
	return e
}

// TestMemory holds that what is handed in stays as it is, and that answers have memory of their own.
func TestMemory(t *testing.T) {
	for what, call := range calls {
		for _, e := range []api.Entry{roomy(at("cn", "a", "b"), at("sn", "s")), roomy(at("SN", "s"), at("cn", "b"), at("o"), at("CN", "a", "b"))} {
			texts := append(make([]string, 0, 8), "sn", "cn", "sn")
			was := copied(e)
			got := call(e, texts)
			told := copied(got)
			if !isEntry(e, was) || !slices.Equal(texts, []string{"sn", "cn", "sn"}) {
				t.Errorf("%s changed %q, %q", what, e, texts)
			}
			if behind := e.Attrs[:len(e.Attrs)+1][len(e.Attrs)]; behind.Type != "" || behind.Values != nil {
				t.Errorf("%s wrote behind attributes: %q", what, behind)
			}
			for _, a := range e.Attrs {
				if behind := a.Values[:len(a.Values)+1][len(a.Values)]; behind != "" {
					t.Errorf("%s wrote behind values: %q", what, behind)
				}
			}
			spoil(got)
			if !isEntry(e, was) || !slices.Equal(texts, []string{"sn", "cn", "sn"}) {
				t.Errorf("what %s tells shares memory with what it is handed: %q, %q", what, e, texts)
			}
			got = call(e, texts)
			spoil(e)
			spoil(of("x", at("", texts...)))
			if !isEntry(got, told) {
				t.Errorf("%s keeps what it is handed: %q", what, got)
			}
		}
	}
}

// TestListsApart holds that no two lists of one answer share memory.
func TestListsApart(t *testing.T) {
	shared := []string{"a", "b"}
	e := of("x", at("cn", shared...), at("sn", shared...), at("o", shared...), at("CN", "c"))
	for what, call := range calls {
		got := call(e, shared)
		for i := range got.Attrs {
			want := copied(got)
			for k := range got.Attrs[i].Values {
				got.Attrs[i].Values[k] = "spoilt"
				want.Attrs[i].Values[k] = "spoilt"
			}
			_ = append(got.Attrs[i].Values, "behind")
			if !isEntry(got, want) {
				t.Errorf("lists that %s tells share memory: %q", what, got)
			}
		}
	}
}

// TestMany goes over many attributes and values: of a walk through all of them for each one it would wait long.
func TestMany(t *testing.T) {
	const n = 1 << 17
	wide, deep := of("x"), of("x", at("cn"))
	var asked []string
	for i := range n {
		number := strconv.Itoa(i)
		wide.Attrs = append(wide.Attrs, at("T"+number, "v"))
		deep.Attrs[0].Values = append(deep.Attrs[0].Values, number)
		asked = append(asked, "t"+number)
	}
	broad := of("x")
	for _, value := range deep.Attrs[0].Values {
		broad.Attrs = append(broad.Attrs, at("CN", value, "0"))
	}
	if got := Clean(wide); len(got.Attrs) != n {
		t.Errorf("Clean of many types: %d", len(got.Attrs))
	}
	if got := Select(wide, asked[1:], true); len(got.Attrs) != n-1 {
		t.Errorf("Select of many types: %d", len(got.Attrs))
	}
	if got := With(deep, "cn", deep.Attrs[0].Values...); !isEntry(got, deep) {
		t.Errorf("With of many values: %d attributes", len(got.Attrs))
	}
	if !Same(broad, deep) {
		t.Error("Same of many values")
	}
	if got := Get(broad, "cn"); !slices.Equal(got, deep.Attrs[0].Values) {
		t.Errorf("Get of many values: %d", len(got))
	}
	if !Has(deep, "cn", strconv.Itoa(n-1), api.RuleInt) || Has(deep, "cn", strconv.Itoa(n), api.RuleInt) {
		t.Error("Has of many values")
	}
}

// TestAgain holds that the same is told each time.
func TestAgain(t *testing.T) {
	var attrs []api.Attr
	for i := range 100 {
		attrs = append(attrs, at("t"+strconv.Itoa(i*37%100), strconv.Itoa(i), strconv.Itoa(i/2)))
	}
	e := of("x", attrs...)
	first := Clean(e)
	for range 50 {
		if got := Clean(e); !isEntry(got, first) {
			t.Fatalf("Clean again: %q", got)
		}
	}
}

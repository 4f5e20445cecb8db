package eval

import (
	"math"
	"slices"
	"strconv"
	"strings"
	"testing"

	"bothy/api"
	"bothy/schema"
)

// Short names, so that truths stand on a line.
const (
	no   = api.False
	yes  = api.True
	open = api.Undef
)

// ofValue are the kinds of filters that have a value, and kinds all of them.
var (
	ofValue = []int{api.FilterEqual, api.FilterApprox, api.FilterGreater, api.FilterLess}
	kinds   = []int{api.FilterAnd, api.FilterOr, api.FilterNot, api.FilterEqual, api.FilterSubs, api.FilterGreater, api.FilterLess, api.FilterPresent, api.FilterApprox}
)

// leaf tells a filter of an attribute.
func leaf(kind int, attr, value string) api.Filter {
	return api.Filter{Kind: kind, Attr: attr, Value: value}
}

// equal tells a filter that asks for a value.
func equal(attr, value string) api.Filter {
	return leaf(api.FilterEqual, attr, value)
}

// present tells a filter that asks whether there is an attribute.
func present(attr string) api.Filter {
	return leaf(api.FilterPresent, attr, "")
}

// parts tells a filter of parts of a value.
func parts(attr, head, tail string, mids ...string) api.Filter {
	return api.Filter{Kind: api.FilterSubs, Attr: attr, Subs: api.Subs{Head: head, Mids: mids, Tail: tail}}
}

// and, or and not tell filters of filters.
func and(list ...api.Filter) api.Filter { return api.Filter{Kind: api.FilterAnd, List: list} }
func or(list ...api.Filter) api.Filter  { return api.Filter{Kind: api.FilterOr, List: list} }
func not(f api.Filter) api.Filter       { return api.Filter{Kind: api.FilterNot, List: []api.Filter{f}} }

// under tells f with n levels above it, each of which asks for what f does.
func under(n int, f api.Filter) api.Filter {
	for range n {
		f = and(f)
	}
	return f
}

// ruled tells a schema with a type of each rule, called by it, and the type zz.
func ruled(t testing.TB) *schema.Schema {
	t.Helper()
	s, err := schema.New([]api.Type{
		{Name: "objectclass", Rule: api.RuleIgnore}, {Name: "zz", Rule: api.RuleIgnore, Single: true},
		{Name: "ignore", Rule: api.RuleIgnore}, {Name: "exact", Rule: api.RuleExact}, {Name: "INT", Rule: api.RuleInt},
		{Name: "octet", Rule: api.RuleOctet}, {Name: "dn", Rule: api.RuleDN},
	}, nil)
	if err != api.OK {
		t.Fatalf("New: %d", err)
	}
	return s
}

// thing tells an entry with an attribute of each rule; there is none of the type zz.
func thing() api.Entry {
	return api.Entry{DN: "zz=a", Attrs: []api.Attr{
		{Type: "Ignore", Values: []string{"Al  Ko", "b"}},
		{Type: "exact", Values: []string{"Al  Ko", "b"}},
		{Type: "int", Values: []string{"007", "-3"}},
		{Type: "octet", Values: []string{"Al  Ko", ""}},
		{Type: "dn", Values: []string{"CN = A , dc=b"}},
	}}
}

// one holds Attr, and Is, if f is one that Check doesn't refuse, of f against want.
func one(t *testing.T, s *schema.Schema, e api.Entry, f api.Filter, want int, checked bool) {
	t.Helper()
	if got := Attr(s, e, f); got != want {
		t.Errorf("Attr of %.200q, kind %d, %.40q, %.40q: %d, not %d", f.Attr, f.Kind, f.Value, f.Subs, got, want)
	}
	if !checked {
		want = open
	}
	if got := Is(s, e, f); got != want {
		t.Errorf("Is of %.200q, kind %d, %.40q, %.40q: %d, not %d", f.Attr, f.Kind, f.Value, f.Subs, got, want)
	}
}

func TestPresent(t *testing.T) {
	s := ruled(t)
	e := api.Entry{DN: "zz=a", Attrs: []api.Attr{{Type: "Ignore", Values: []string{"a"}}, {Type: "exact"}, {Type: "octet", Values: []string{""}}, {Type: "dn"}, {Type: "DN", Values: []string{" "}}, {Type: "cn", Values: []string{"a"}}}}
	for _, c := range []struct {
		attr string
		want int
	}{
		{"ignore", yes}, {"IGNORE", yes}, {"iGnOrE", yes},
		{"zz", no},
		{"exact", no},               // an attribute without values is none
		{"octet", yes}, {"dn", yes}, // a value is there, whatever it is
		{"int", no}, {"objectclass", no},
		{"cn", open}, // there is such an attribute, but no such type
		{"yy", open}, {"ignores", open}, {"ignor", open},
	} {
		one(t, s, e, present(c.attr), c.want, true)
	}
	for _, attr := range []string{"", "*", " zz", "zz ", "zz;x", "1.1", "\x00", strings.Repeat("z", 65)} {
		one(t, s, e, present(attr), open, false)
	}
	one(t, s, api.Entry{}, present("ignore"), no, true)
	one(t, s, api.Entry{}, present("yy"), open, true)
}

// values are what filters of a value answer of thing.
var values = []struct {
	attr, value          string
	equal, greater, less int
}{
	// By small letters and blanks: "al ko" and "b".
	{"ignore", "Al  Ko", yes, yes, yes},
	{"IGNORE", " aL ko  ", yes, yes, yes},
	{"ignore", "alko", no, yes, yes},
	{"ignore", "B", yes, yes, yes},
	{"ignore", "a", no, yes, no},
	{"ignore", "A", no, yes, no},
	{"ignore", "c", no, no, yes},
	{"ignore", "C", no, no, yes},
	{"ignore", "007", no, yes, no},
	{"ignore", "", open, open, open},
	{"ignore", "   ", open, open, open},
	// By blanks: "Al Ko" and "b".
	{"exact", "Al Ko", yes, yes, yes},
	{"exact", " Al   Ko ", yes, yes, yes},
	{"exact", "al Ko", no, yes, yes},
	{"exact", "B", no, yes, yes},
	{"exact", "A", no, yes, no},
	{"exact", "c", no, no, yes},
	{"exact", "", open, open, open},
	{"exact", "  ", open, open, open},
	// By numbers: 7 and -3.
	{"int", "7", yes, yes, yes},
	{"Int", "0007", yes, yes, yes},
	{"int", "-3", yes, yes, yes},
	{"int", "-03", yes, yes, yes},
	{"int", "3", no, yes, yes},
	{"int", "10", no, no, yes},
	{"int", "8", no, no, yes},
	{"int", "-4", no, yes, no},
	{"int", "-20", no, yes, no},
	{"int", "0", no, yes, yes},
	{"int", strings.Repeat("9", 32), no, no, yes},
	{"int", "-" + strings.Repeat("9", 32), no, yes, no},
	{"int", "", open, open, open},
	{"int", "x", open, open, open},
	{"int", " 7", open, open, open},
	{"int", "+7", open, open, open},
	{"int", strings.Repeat("9", 33), open, open, open},
	// As they stand: "Al  Ko" and "".
	{"octet", "Al  Ko", yes, yes, yes},
	{"octet", "", yes, yes, yes},
	{"octet", "Al Ko", no, no, yes},
	{"octet", "al  ko", no, no, yes},
	{"octet", " ", no, yes, yes},
	{"octet", "\x00", no, yes, yes},
	{"octet", "\xff", no, no, yes},
	// As names, which have no order.
	{"dn", "cn=a,dc=b", yes, open, open},
	{"dn", "CN=A, DC=B", yes, open, open},
	{"dn", "cn=a,dc=c", no, open, open},
	{"dn", "cn=a", no, open, open},
	{"dn", "", no, open, open},
	{"dn", "a", open, open, open},
	{"dn", "cn=a,", open, open, open},
	// There is none.
	{"zz", "a", no, no, no},
	{"zz", "", open, open, open},
	{"objectclass", "top", no, no, no},
	// There is no such type.
	{"yy", "a", open, open, open},
	{"yy", "", open, open, open},
	{"cn", "a", open, open, open},
}

func TestValues(t *testing.T) {
	s, e := ruled(t), thing()
	for _, c := range values {
		one(t, s, e, equal(c.attr, c.value), c.equal, true)
		one(t, s, e, leaf(api.FilterApprox, c.attr, c.value), c.equal, true)
		one(t, s, e, leaf(api.FilterGreater, c.attr, c.value), c.greater, true)
		one(t, s, e, leaf(api.FilterLess, c.attr, c.value), c.less, true)
	}
}

// TestOneIsEnough holds that it is asked of each value, wherever it stands, and that what is no value is none that meets.
func TestOneIsEnough(t *testing.T) {
	s := ruled(t)
	for _, c := range []struct {
		own []string
		f   api.Filter
	}{
		{[]string{"7"}, equal("int", "7")},
		{[]string{"7"}, leaf(api.FilterApprox, "int", "07")},
		{[]string{"7"}, leaf(api.FilterGreater, "int", "6")},
		{[]string{"7"}, leaf(api.FilterLess, "int", "10")},
	} {
		for _, bad := range []string{"x", "", " ", "7x", "-", strings.Repeat("7", 33), strings.Repeat("0", 4097)} {
			for _, other := range []string{bad, bad + bad} {
				mixed := []struct {
					own  []string
					want int
				}{
					{[]string{bad}, no},
					{[]string{bad, other}, no},
					{append([]string{bad}, c.own...), yes},
					{append([]string{bad, other}, c.own...), yes},
					{append(slices.Clone(c.own), bad, other), yes},
					{append([]string{bad}, append(slices.Clone(c.own), other)...), yes},
				}
				for _, m := range mixed {
					e := api.Entry{Attrs: []api.Attr{{Type: "INT", Values: m.own}}}
					one(t, s, e, c.f, m.want, true)
				}
			}
		}
	}
	// The values of several attributes of one type are asked together.
	e := api.Entry{Attrs: []api.Attr{{Type: "int", Values: []string{"1"}}, {Type: "exact", Values: []string{"2"}}, {Type: "Int", Values: []string{"3", "1"}}, {Type: "int"}}}
	for value, want := range map[string]int{"1": yes, "2": no, "3": yes, "4": no} {
		one(t, s, e, equal("iNt", value), want, true)
	}
	// More values than one of a type that may have one: the schema says nothing of that here.
	e = api.Entry{Attrs: []api.Attr{{Type: "zz", Values: []string{"a", "b"}}}}
	one(t, s, e, equal("zz", "a"), yes, true)
	one(t, s, e, equal("zz", "b"), yes, true)
}

// TestName holds that an entry's name is no attribute of it.
func TestName(t *testing.T) {
	e := api.Entry{DN: "cn=a,dc=b"}
	one(t, schema.Plain(), e, present("cn"), no, true)
	one(t, schema.Plain(), e, equal("cn", "a"), no, true)
	if got := Is(schema.Plain(), e, not(present("cn"))); got != yes {
		t.Errorf("Is of not present: %d", got)
	}
	one(t, schema.Plain(), api.Entry{DN: "no name"}, equal("cn", "a"), no, true)
}

func TestSubs(t *testing.T) {
	s, e := ruled(t), thing()
	for _, c := range []struct {
		f    api.Filter
		want int
	}{
		{parts("ignore", "a", ""), yes},
		{parts("Ignore", "AL", "kO"), yes},
		{parts("ignore", "", "", "L K"), yes},
		{parts("ignore", "a", "o", "l", "k"), yes},
		{parts("ignore", "a", "o", "k", "l"), no},
		{parts("ignore", "al k", "ko"), no},
		{parts("ignore", "", "", "l  k"), no},
		{parts("ignore", "b", ""), yes},
		{parts("ignore", "", "b", "l"), no}, // each of two values has one part
		{parts("ignore", "c", ""), no},
		{parts("exact", "A", ""), yes},
		{parts("exact", "a", ""), no},
		{parts("exact", "Al ", "o"), yes},
		{parts("exact", "", "", "KO"), no},
		{parts("exact", "", "B"), no},
		{parts("exact", "", "", slices.Repeat([]string{"l"}, 16)...), no},
		// Values of other rules have no parts.
		{parts("int", "7", ""), open},
		{parts("int", "", "", "x"), open},
		{parts("octet", "A", ""), open},
		{parts("octet", "z", ""), open},
		{parts("dn", "cn", ""), open},
		// There is none, and there is no such type.
		{parts("zz", "a", ""), no},
		{parts("objectclass", "", "", "a"), no},
		{parts("yy", "a", ""), open},
	} {
		one(t, s, e, c.f, c.want, true)
	}
	// What rules are without an order, or without parts, is asked ahead of whether there are values.
	for attr, want := range map[string]int{"ignore": no, "exact": no, "int": open, "octet": open, "dn": open} {
		one(t, s, api.Entry{}, parts(attr, "a", ""), want, true)
	}
	one(t, s, api.Entry{}, leaf(api.FilterGreater, "dn", "cn=a"), open, true)
	one(t, s, api.Entry{}, leaf(api.FilterLess, "dn", "cn=a"), open, true)
	one(t, s, api.Entry{}, equal("dn", "cn=a"), no, true)
	// A value that is none is passed over.
	bad := api.Entry{Attrs: []api.Attr{{Type: "exact", Values: []string{"", "  ", strings.Repeat("a", 4097)}}}}
	one(t, s, bad, parts("exact", "a", ""), no, true)
	bad.Attrs[0].Values = append(bad.Attrs[0].Values, "ab")
	one(t, s, bad, parts("exact", "a", ""), yes, true)
}

// TestAttrUnchecked has filters that Check refuses: Attr answers of them by their kind's own fields.
func TestAttrUnchecked(t *testing.T) {
	s, e := ruled(t), thing()
	long := strings.Repeat("a", 1025)
	e.Attrs = append(e.Attrs, api.Attr{Type: "ignore", Values: []string{long, strings.Repeat("b", 4096)}})
	with := func(f api.Filter, put func(f *api.Filter)) api.Filter {
		put(&f)
		return f
	}
	for _, c := range []struct {
		f    api.Filter
		want int
	}{
		// A value of more bytes than a filter may have; above MaxText it counts as none.
		{equal("ignore", long), yes},
		{equal("ignore", long+"a"), no},
		{equal("ignore", strings.Repeat("B", 4096)), yes},
		{equal("ignore", strings.Repeat("B", 4097)), open},
		{leaf(api.FilterGreater, "ignore", strings.Repeat("a", 4097)), open},
		{leaf(api.FilterLess, "octet", strings.Repeat("a", 4097)), open},
		{leaf(api.FilterApprox, "octet", strings.Repeat("a", 4096)), no},
		{equal("dn", strings.Repeat(" ", 4097)), open},
		{parts("ignore", long, ""), yes},
		{parts("ignore", long+"a", ""), no},
		// Parts that may not be are parts of no value.
		{parts("ignore", "", ""), no},
		{parts("ignore", "a", "", ""), no},
		{parts("ignore", "", "", slices.Repeat([]string{"a"}, 17)...), no},
		{parts("int", "", ""), open},
		{parts("yy", "", ""), open},
		// Fields that the kind has not are not asked.
		{with(present("int"), func(f *api.Filter) { f.Value = "x" }), yes},
		{with(present("zz"), func(f *api.Filter) { f.Value = "x" }), no},
		{with(present("int"), func(f *api.Filter) { f.Subs.Head = "x" }), yes},
		{with(present("int"), func(f *api.Filter) { f.List = []api.Filter{present("zz")} }), yes},
		{with(parts("ignore", "b", ""), func(f *api.Filter) { f.Value = "" }), yes},
		{with(equal("int", "7"), func(f *api.Filter) { f.Subs.Head = "8" }), yes},
		{with(equal("int", "x"), func(f *api.Filter) { f.Subs.Head = "7" }), open},
		{with(equal("int", "7"), func(f *api.Filter) { f.List = []api.Filter{present("zz")} }), yes},
	} {
		if got := Attr(s, e, c.f); got != c.want {
			t.Errorf("Attr of %s, kind %d, %.20q, %.20q: %d, not %d", c.f.Attr, c.f.Kind, c.f.Value, c.f.Subs, got, c.want)
		}
	}
	// Of parts no value is asked, be it one or not.
	for _, value := range []string{"x", " ", strings.Repeat("b", 4097)} {
		one(t, s, e, with(parts("ignore", "b", ""), func(f *api.Filter) { f.Value = value }), yes, false)
		one(t, s, e, with(parts("ignore", "c", ""), func(f *api.Filter) { f.Value = value }), no, false)
	}
}

// TestAttrOther holds that filters of filters, and what is none, ask of no attribute.
func TestAttrOther(t *testing.T) {
	s, e := ruled(t), thing()
	for _, kind := range []int{api.FilterAnd, api.FilterOr, api.FilterNot, -1, 9, 10, 256 + api.FilterPresent, -api.FilterEqual, math.MaxInt, math.MinInt} {
		for _, f := range []api.Filter{{Kind: kind}, leaf(kind, "int", "7"), leaf(kind, "zz", "a"), {Kind: kind, List: []api.Filter{present("int")}}, {Kind: kind, Attr: "int", List: []api.Filter{present("int")}}} {
			if got := Attr(s, e, f); got != open {
				t.Errorf("Attr of kind %d, %q: %d", kind, f.Attr, got)
			}
		}
		if kind < api.FilterAnd || kind > api.FilterNot {
			one(t, s, e, leaf(kind, "int", "7"), open, false)
			one(t, s, e, api.Filter{Kind: kind, List: []api.Filter{present("int")}}, open, false)
		}
	}
}

func TestIs(t *testing.T) {
	s, e := ruled(t), thing()
	a, b, c := present("int"), present("zz"), present("yy")
	for _, x := range []struct {
		f    api.Filter
		want int
	}{
		{a, yes}, {b, no}, {c, open},
		{and(), yes}, {or(), no},
		{api.Filter{List: []api.Filter{}}, yes}, {api.Filter{}, yes},
		{not(a), no}, {not(b), yes}, {not(c), open},
		{not(and()), no}, {not(or()), yes}, {not(not(a)), yes}, {not(not(c)), open},
		{and(a), yes}, {and(b), no}, {and(c), open},
		{and(a, b), no}, {and(b, a), no}, {and(a, c), open}, {and(c, a), open}, {and(b, c), no}, {and(c, b), no}, {and(c, a, b), no},
		{or(a), yes}, {or(b), no}, {or(c), open},
		{or(a, b), yes}, {or(b, a), yes}, {or(a, c), yes}, {or(c, a), yes}, {or(b, c), open}, {or(c, b), open}, {or(c, b, a), yes},
		{and(or(b, a), not(b)), yes},
		{or(and(a, b), not(a)), no},
		{and(or(b, c), a), open},
		{not(or(b, c)), open}, {not(and(b, c)), yes}, {not(or(a, c)), no},
		{and(equal("ignore", "AL KO"), leaf(api.FilterGreater, "int", "5"), leaf(api.FilterLess, "int", "0"), parts("exact", "Al", "")), yes},
		{and(equal("ignore", "AL KO"), equal("dn", "cn=b")), no},
		{or(equal("int", "x"), equal("int", "7")), yes},
		{or(equal("int", "x"), equal("int", "8")), open},
		{and(slices.Repeat([]api.Filter{a}, 64)...), yes},
		{or(append(slices.Repeat([]api.Filter{b}, 63), a)...), yes},
		{and(append(slices.Repeat([]api.Filter{a}, 63), c)...), open},
	} {
		if got := Is(s, e, x.f); got != x.want {
			t.Errorf("Is of %v: %d, not %d", x.f, got, x.want)
		}
	}
}

// TestIsLevels holds that each level counts, down to the last one that may be.
func TestIsLevels(t *testing.T) {
	s, e := ruled(t), thing()
	for truth, f := range map[int]api.Filter{yes: present("int"), no: present("zz"), open: present("yy")} {
		for n := range 40 {
			want := truth
			if n+1 > api.MaxDepth {
				want = open
			}
			if got := Is(s, e, under(n, f)); got != want {
				t.Errorf("Is under %d levels: %d, not %d", n, got, want)
			}
			nots := f
			for range n {
				nots = not(nots)
			}
			if want != open && n%2 == 1 {
				want = 1 - want
			}
			if got := Is(s, e, nots); got != want {
				t.Errorf("Is of %d nots: %d, not %d", n, got, want)
			}
		}
	}
}

// TestIsRefused holds that of what Check refuses nothing is known, whatever the rest of the filter asks for.
func TestIsRefused(t *testing.T) {
	s, e := ruled(t), thing()
	in := func(f api.Filter, put func(f *api.Filter)) api.Filter {
		put(&f)
		return f
	}
	for what, f := range map[string]api.Filter{
		"no kind":                    leaf(9, "int", "7"),
		"no kind, below the kinds":   leaf(-1, "int", "7"),
		"an and with an attribute":   in(and(), func(f *api.Filter) { f.Attr = "int" }),
		"an or with a value":         in(or(present("int")), func(f *api.Filter) { f.Value = "7" }),
		"an and with parts":          in(and(), func(f *api.Filter) { f.Subs.Tail = "a" }),
		"a not of none":              {Kind: api.FilterNot},
		"a not of two":               {Kind: api.FilterNot, List: []api.Filter{present("zz"), present("zz")}},
		"an attribute with a list":   in(present("int"), func(f *api.Filter) { f.List = []api.Filter{present("int")} }),
		"present with a value":       leaf(api.FilterPresent, "int", "7"),
		"equal with parts":           in(equal("int", "7"), func(f *api.Filter) { f.Subs.Head = "7" }),
		"parts with a value":         in(parts("ignore", "a", ""), func(f *api.Filter) { f.Value = "a" }),
		"no parts":                   parts("ignore", "", ""),
		"an empty middle":            parts("ignore", "a", "", ""),
		"17 middles":                 parts("ignore", "", "", slices.Repeat([]string{"a"}, 17)...),
		"no name":                    equal("", "a"),
		"a name with a digit first":  equal("1a", "a"),
		"a name of 65 bytes":         equal(strings.Repeat("a", 65), "a"),
		"a value of 1025 bytes":      equal("zz", strings.Repeat("a", 1025)),
		"a part of 1025 bytes":       parts("zz", strings.Repeat("a", 1025), ""),
		"65 filters of and":          and(slices.Repeat([]api.Filter{present("int")}, 65)...),
		"65 filters of or":           or(slices.Repeat([]api.Filter{present("int")}, 65)...),
		"17 levels":                  under(16, present("int")),
		"17 levels beside a few":     and(under(15, present("int")), present("int")),
		"a bad one behind good ones": or(present("int"), present("int"), leaf(9, "int", "7")),
	} {
		for n, g := range []api.Filter{f, and(f), or(f), not(f), and(present("zz"), f), and(f, present("zz")), or(present("int"), f), or(f, present("int")), or(present("int"), not(and(f)))} {
			if got := Is(s, e, g); got != open {
				t.Errorf("Is of %s, in filter %d: %d", what, n, got)
			}
		}
	}
}

// TestNil holds that nothing is known where there is no schema, or none of its types.
func TestNil(t *testing.T) {
	e := thing()
	for what, s := range map[string]*schema.Schema{"nil": nil, "the zero schema": {}} {
		for _, kind := range kinds {
			for _, f := range []api.Filter{leaf(kind, "int", "7"), leaf(kind, "zz", "a"), parts("ignore", "a", ""), leaf(kind, "", ""), {Kind: kind, List: []api.Filter{present("int")}}} {
				if got := Attr(s, e, f); got != open {
					t.Errorf("Attr of %s, kind %d: %d", what, kind, got)
				}
			}
		}
		for _, f := range []api.Filter{present("int"), present("zz"), not(present("int")), and(present("int")), or(present("int"))} {
			if got := Is(s, e, f); got != open {
				t.Errorf("Is of %s, %v: %d", what, f, got)
			}
		}
	}
	for _, f := range []api.Filter{and(), or(), not(or()), {}, {Kind: 9}} {
		if got := Is(nil, e, f); got != open {
			t.Errorf("Is of nil, kind %d: %d", f.Kind, got)
		}
	}
	if got := Is(&schema.Schema{}, e, and()); got != yes {
		t.Errorf("Is of the zero schema, of and of none: %d", got)
	}
}

func TestPlain(t *testing.T) {
	s := schema.Plain()
	e := api.Entry{DN: "cn=a", Attrs: []api.Attr{
		{Type: "objectClass", Values: []string{"top", "Person"}}, {Type: "cn", Values: []string{"Al Ko"}}, {Type: "sn", Values: []string{"Ko"}},
		{Type: "uidNumber", Values: []string{"10"}}, {Type: "userPassword", Values: []string{"Secret"}}, {Type: "serialNumber", Values: []string{"A1"}},
		{Type: "member", Values: []string{"cn=B , dc=c"}},
	}}
	for _, c := range []struct {
		f    api.Filter
		want int
	}{
		{equal("objectclass", "PERSON"), yes}, {equal("objectclass", "group"), no},
		{equal("CN", "al  ko"), yes}, {parts("cn", "AL", ""), yes}, {present("mail"), no}, {present("nickname"), open},
		{leaf(api.FilterGreater, "uidnumber", "9"), yes}, {leaf(api.FilterLess, "uidnumber", "9"), no}, {equal("uidnumber", "ten"), open},
		{equal("userpassword", "Secret"), yes}, {equal("userpassword", "secret"), no}, {parts("userpassword", "S", ""), open},
		{equal("serialnumber", "A1"), yes}, {equal("serialnumber", "a1"), no}, {parts("serialnumber", "A", ""), yes},
		{equal("member", "CN=b,DC=c"), yes}, {leaf(api.FilterLess, "member", "cn=b"), open}, {equal("member", "b"), open},
		{leaf(api.FilterApprox, "sn", "KO"), yes}, {leaf(api.FilterApprox, "sn", "coe"), no},
	} {
		one(t, s, e, c.f, c.want, true)
	}
}

// TestShared has filters whose lists stand in many places: each list once is soon done, each place would take for ever.
func TestShared(t *testing.T) {
	s, e := ruled(t), thing()
	for truth, f := range map[int]api.Filter{yes: present("int"), no: present("zz"), open: present("yy")} {
		wide, turned := f, f
		for n := range api.MaxDepth - 1 {
			list := slices.Repeat([]api.Filter{wide}, 64)
			if wide = and(list...); n%2 == 1 {
				wide = or(list...)
			}
			turned = and(or(turned, turned), not(not(turned)))
			if got := Is(s, e, wide); got != truth {
				t.Errorf("Is of %d levels that share lists: %d, not %d", n+2, got, truth)
			}
			want := truth
			if 3*n+4 > api.MaxDepth {
				want = open
			}
			if got := Is(s, e, turned); got != want {
				t.Errorf("Is of %d levels that share filters: %d, not %d", 3*n+4, got, want)
			}
		}
	}
	// One list asked by several kinds, and by filters that have just a part of it.
	list := []api.Filter{present("int"), present("zz"), present("yy")}
	for _, c := range []struct {
		f    api.Filter
		want int
	}{
		{and(and(list[:1]...), or(list...)), yes},
		{or(and(list...), or(list[1:]...)), open},
		{and(and(list[:1]...), and(list[:2]...)), no},
		{or(and(list[:2]...), and(list[:1]...)), yes},
		{and(or(list[:2]...), and(list[:2]...)), no},
		{and(or(list[:2]...), not(or(list[1:2]...))), yes},
		{and(or(list...), and(list...)), no},
		{or(and(list...), or(list...)), yes},
		{and(api.Filter{Kind: api.FilterNot, List: list[:1]}, or(list[:1]...)), no},
		{or(or(list[:1]...), api.Filter{Kind: api.FilterNot, List: list[:1]}), yes},
		{and(or(list[:1]...), api.Filter{Kind: api.FilterNot, List: list[1:2]}), yes},
		{and(or(list[:1]...), api.Filter{Kind: api.FilterNot, List: list[2:]}), open},
	} {
		if got := Is(s, e, c.f); got != c.want {
			t.Errorf("Is of %v: %d, not %d", c.f, got, c.want)
		}
	}
	// What stands within itself is too deep.
	loop := make([]api.Filter, 2)
	loop[0], loop[1] = and(loop...), or(loop...)
	loop[0].List, loop[1].List = loop, loop
	if got := Is(s, e, or(present("int"), loop[0])); got != open {
		t.Errorf("Is of what stands within itself: %d", got)
	}
}

// small tells s with small letters for great ones, in the plainest way.
func small(s string) string {
	out := []byte(s)
	for i, c := range out {
		if c >= 'A' && c <= 'Z' {
			out[i] = c + 'a' - 'A'
		}
	}
	return string(out)
}

// single tells s with one blank for some, and none at its ends, in the plainest way.
func single(s string) string {
	for strings.Contains(s, "  ") {
		s = strings.ReplaceAll(s, "  ", " ")
	}
	return strings.Trim(s, " ")
}

// slowNorm tells a value as it counts, of values that the pools below have.
func slowNorm(rule int, s string) (string, bool) {
	switch rule {
	case api.RuleIgnore:
		s = small(single(s))
		return s, s != ""
	case api.RuleExact:
		s = single(s)
		return s, s != ""
	case api.RuleInt:
		n, err := strconv.Atoi(s)
		return strconv.Itoa(n), err == nil
	case api.RuleDN:
		kind, value, ok := strings.Cut(small(s), "=")
		return single(kind) + "=" + single(value), ok
	}
	return s, true
}

// slowOrder tells whether a is less than b, or the same, both as they count.
func slowOrder(rule int, a, b string) bool {
	if rule == api.RuleInt {
		x, _ := strconv.Atoi(a)
		y, _ := strconv.Atoi(b)
		return x <= y
	}
	return a <= b
}

// slowMeets tells whether a value that counts as own is as f asks for; parts are a head, or a tail, alone.
func slowMeets(rule int, own, value string, f api.Filter) bool {
	switch f.Kind {
	case api.FilterPresent:
		return true
	case api.FilterSubs:
		head, tail := f.Subs.Head, f.Subs.Tail
		if rule == api.RuleIgnore {
			head, tail = small(head), small(tail)
		}
		return strings.HasPrefix(own, head) && strings.HasSuffix(own, tail)
	case api.FilterGreater:
		return slowOrder(rule, value, own)
	case api.FilterLess:
		return slowOrder(rule, own, value)
	}
	return own == value
}

// slowAttr does what the chapter says of Attr, in the plainest way.
func slowAttr(types map[string]int, e api.Entry, f api.Filter) int {
	rule, ok := types[strings.ToLower(f.Attr)]
	if !ok || f.Kind < api.FilterEqual || f.Kind > api.FilterApprox {
		return open
	}
	value, ok := slowNorm(rule, f.Value)
	if !ok && slices.Contains(ofValue, f.Kind) {
		return open
	}
	if rule == api.RuleDN && (f.Kind == api.FilterGreater || f.Kind == api.FilterLess) {
		return open
	}
	if f.Kind == api.FilterSubs && rule != api.RuleIgnore && rule != api.RuleExact {
		return open
	}
	for _, a := range e.Attrs {
		for _, own := range a.Values {
			norm, ok := slowNorm(rule, own)
			if strings.EqualFold(a.Type, f.Attr) && (ok || f.Kind == api.FilterPresent) && slowMeets(rule, norm, value, f) {
				return yes
			}
		}
	}
	return no
}

// slowIs does what the chapter says of Is, of filters that Check doesn't refuse, in the plainest way.
func slowIs(types map[string]int, e api.Entry, f api.Filter) int {
	var many [3]int
	for _, g := range f.List {
		many[slowIs(types, e, g)]++
	}
	switch f.Kind {
	case api.FilterAnd:
		if many[no] > 0 {
			return no
		}
		if many[open] > 0 {
			return open
		}
		return yes
	case api.FilterOr:
		if many[yes] > 0 {
			return yes
		}
		if many[open] > 0 {
			return open
		}
		return no
	case api.FilterNot:
		if many[open] > 0 {
			return open
		}
		return many[no]
	}
	return slowAttr(types, e, f)
}

// slowTypes are the types of ruled.
var slowTypes = map[string]int{"objectclass": api.RuleIgnore, "zz": api.RuleIgnore, "ignore": api.RuleIgnore, "exact": api.RuleExact, "int": api.RuleInt, "octet": api.RuleOctet, "dn": api.RuleDN}

// texts are values, of which each is none by some rule, or counts as another one by some rule.
var texts = []string{"a", "A", "b", " a ", "a  B", "a b", "7", "007", "-7", "10", "b=1", "B = 1", "a=1", " ", "\xff"}

// TestLeaves holds Attr and Is of all filters of an attribute, of entries with up to two values, against the slow ones.
func TestLeaves(t *testing.T) {
	s := ruled(t)
	for _, attr := range []string{"ignore", "Exact", "int", "octet", "DN", "yy"} {
		var filters []api.Filter
		filters = append(filters, present(attr))
		for _, value := range texts {
			for _, kind := range ofValue {
				filters = append(filters, leaf(kind, attr, value))
			}
			filters = append(filters, parts(attr, value, ""), parts(attr, "", value))
		}
		lists := [][]string{nil}
		for _, x := range texts {
			lists = append(lists, []string{x})
			for _, y := range texts {
				lists = append(lists, []string{x, y})
			}
		}
		for _, list := range lists {
			e := api.Entry{Attrs: []api.Attr{{Type: strings.ToUpper(attr), Values: list}, {Type: "other", Values: []string{"a"}}}}
			for _, f := range filters {
				want := slowAttr(slowTypes, e, f)
				if got := Attr(s, e, f); got != want {
					t.Fatalf("Attr of %s, kind %d, %q, %q, of %q: %d, not %d", attr, f.Kind, f.Value, f.Subs, list, got, want)
				}
				if got := Is(s, e, f); got != want {
					t.Fatalf("Is of %s, kind %d, %q, %q, of %q: %d, not %d", attr, f.Kind, f.Value, f.Subs, list, got, want)
				}
			}
		}
	}
}

// built tells filters whose lists have up to two of list.
func built(list []api.Filter) []api.Filter {
	out := []api.Filter{and(), or()}
	for _, a := range list {
		out = append(out, and(a), or(a), not(a))
		for _, b := range list {
			out = append(out, and(a, b), or(a, b))
		}
	}
	return out
}

// TestPool holds Is of many filters of filters against the slow one.
func TestPool(t *testing.T) {
	s, e := ruled(t), thing()
	list := []api.Filter{present("int"), present("zz"), present("yy"), equal("ignore", "AL KO"), equal("int", "x"), leaf(api.FilterGreater, "int", "8"), parts("dn", "c", "")}
	first := built(list)
	for _, f := range slices.Concat(list, first, built(first), built(built(first[:6]))) {
		if got, want := Is(s, e, f), slowIs(slowTypes, e, f); got != want {
			t.Fatalf("Is of %v: %d, not %d", f, got, want)
		}
	}
}

// TestStays holds that no call changes what it is handed, and that a call answers the same again.
func TestStays(t *testing.T) {
	s := ruled(t)
	e := thing()
	e.Attrs = append(make([]api.Attr, 0, 16), e.Attrs...)
	list := append(make([]api.Filter, 0, 8), equal("ignore", " AL ko"), parts("IGNORE", "A", "O", "L"), not(present("zz")))
	f := and(list...)
	for range 3 {
		if got := Is(s, e, f); got != yes {
			t.Fatalf("Is: %d", got)
		}
		if Attr(s, e, list[0]) != yes || Attr(s, e, list[1]) != yes || Attr(s, e, f) != open {
			t.Fatal("Attr")
		}
	}
	was := thing()
	for i, a := range e.Attrs {
		if a.Type != was.Attrs[i].Type || !slices.Equal(a.Values, was.Attrs[i].Values) {
			t.Errorf("an attribute became %q", a)
		}
	}
	if e.Attrs[:6][5].Type != "" || list[:4][3].Attr != "" || list[:4][3].Kind != 0 {
		t.Error("something stands behind a list")
	}
	if list[0].Attr != "ignore" || list[0].Value != " AL ko" || list[1].Attr != "IGNORE" || list[1].Subs.Head != "A" || list[1].Subs.Mids[0] != "L" || list[1].Subs.Tail != "O" {
		t.Errorf("the filters became %v", list)
	}
	// A list that is the same memory, with something else in it, is asked anew.
	list[0] = present("zz")
	if got := Is(s, e, f); got != no {
		t.Errorf("Is of another filter in the same list: %d", got)
	}
	// Another entry, and another schema, with the same filter.
	list[0] = equal("ignore", "b")
	if Is(s, e, f) != yes || Is(s, api.Entry{}, f) != no || Is(schema.Plain(), e, f) != open {
		t.Error("Is of one filter, of others")
	}
}

// TestMany has an entry with many values, and a filter of many filters.
func TestMany(t *testing.T) {
	s := ruled(t)
	var own []string
	for i := range 1 << 16 {
		own = append(own, strconv.Itoa(i))
	}
	e := api.Entry{Attrs: []api.Attr{{Type: "int", Values: own}}}
	one(t, s, e, equal("int", "65535"), yes, true)
	one(t, s, e, equal("int", "65536"), no, true)
	one(t, s, e, leaf(api.FilterGreater, "int", "65536"), no, true)
	one(t, s, e, leaf(api.FilterLess, "int", "-1"), no, true)
	var list []api.Filter
	for i := range 64 {
		var low []api.Filter
		for j := range 64 {
			low = append(low, equal("int", strconv.Itoa(64*i+j)))
		}
		list = append(list, or(low...))
	}
	e.Attrs[0].Values = []string{"4095"}
	if Is(s, e, or(list...)) != yes || Is(s, e, and(list...)) != no || Is(s, e, or(list[:63]...)) != no {
		t.Error("Is of many filters")
	}
}

package schema

import (
	"math"
	"slices"
	"strconv"
	"strings"
	"testing"

	"bothy/api"
	"bothy/rules"
)

// class is the type that each schema has.
var class = api.Type{Name: "objectClass", Rule: api.RuleIgnore}

// made tells the schema of types, that of classes' names among them, and classes.
func made(t *testing.T, types []api.Type, classes []api.Class) *Schema {
	t.Helper()
	s, err := New(append([]api.Type{class}, types...), classes)
	if err != api.OK || s == nil {
		t.Fatalf("New of %v, %v: error %d", types, classes, err)
	}
	return s
}

// called tells types of these names, of the rule that passes letters over.
func called(list ...string) []api.Type {
	types := []api.Type{class}
	for _, name := range list {
		types = append(types, api.Type{Name: name, Rule: api.RuleIgnore})
	}
	return types
}

// many tells n names, each another one.
func many(n int) []string {
	var list []string
	for i := range n {
		list = append(list, "n"+strconv.Itoa(i))
	}
	return list
}

// classed tells classes of these names, without attributes.
func classed(list ...string) []api.Class {
	var classes []api.Class
	for _, name := range list {
		classes = append(classes, api.Class{Name: name})
	}
	return classes
}

// isSame tells whether two classes are the same, lists that are empty among them.
func isSame(a, b api.Class) bool {
	return a.Name == b.Name && slices.Equal(a.Must, b.Must) && slices.Equal(a.May, b.May)
}

// plainTable is the types of the plain schema, in the chapter's order.
var plainTable = []api.Type{
	{Name: "cn", Rule: 1},
	{Name: "sn", Rule: 1},
	{Name: "ou", Rule: 1},
	{Name: "dc", Rule: 1},
	{Name: "o", Rule: 1},
	{Name: "description", Rule: 1},
	{Name: "mail", Rule: 1},
	{Name: "objectclass", Rule: 1},
	{Name: "userpassword", Rule: 4, Single: true},
	{Name: "uid", Rule: 1, Single: true},
	{Name: "uidnumber", Rule: 3, Single: true},
	{Name: "member", Rule: 5},
	{Name: "serialnumber", Rule: 2},
}

// plainList is the classes of the plain schema, in the chapter's order.
var plainList = []api.Class{
	{Name: "top"},
	{Name: "person", Must: []string{"cn", "sn"}, May: []string{"description", "userpassword", "mail", "uid", "uidnumber", "serialnumber", "member"}},
	{Name: "organizationalunit", Must: []string{"ou"}, May: []string{"description", "member"}},
	{Name: "domain", Must: []string{"dc"}, May: []string{"description", "o"}},
	{Name: "group", Must: []string{"cn"}, May: []string{"member", "description"}},
}

func TestPlain(t *testing.T) {
	s := Plain()
	if s == nil {
		t.Fatal("no plain schema")
	}
	var all []string
	for _, want := range plainTable {
		all = append(all, want.Name)
		for _, name := range []string{want.Name, strings.ToUpper(want.Name), strings.ToUpper(want.Name[:1]) + want.Name[1:]} {
			if got, ok := s.Type(name); !ok || got != want {
				t.Errorf("Type of %q: %v, %t", name, got, ok)
			}
		}
		if _, ok := s.Class(want.Name); ok {
			t.Errorf("%q is a class", want.Name)
		}
	}
	for _, want := range plainList {
		for _, name := range []string{want.Name, strings.ToUpper(want.Name), strings.ToUpper(want.Name[:1]) + want.Name[1:]} {
			if got, ok := s.Class(name); !ok || !isSame(got, want) {
				t.Errorf("Class of %q: %v, %t", name, got, ok)
			}
		}
		if _, ok := s.Type(want.Name); ok {
			t.Errorf("%q is a type", want.Name)
		}
	}
	slices.Sort(all)
	if got := s.Types(); !slices.Equal(got, all) {
		t.Errorf("Types: %q", got)
	}
}

func TestNoSuchName(t *testing.T) {
	s := Plain()
	for _, name := range []string{"", " ", " cn", "cn ", "c n", "c", "cnn", "cn\x00", "cn;x", "\u212an", "CN=", "2.5.4.3", "person ", " top", "persons", "perso", strings.Repeat("cn", 1<<16)} {
		if got, ok := s.Type(name); ok || got != (api.Type{}) {
			t.Errorf("Type of %.20q: %v, %t", name, got, ok)
		}
		if got, ok := s.Class(name); ok || !isSame(got, api.Class{}) {
			t.Errorf("Class of %.20q: %v, %t", name, got, ok)
		}
	}
}

func TestNew(t *testing.T) {
	types := []api.Type{{Name: "Z-9", Rule: api.RuleDN, Single: true}, {Name: "a", Rule: api.RuleExact}, {Name: "B", Rule: api.RuleOctet}, {Name: "b2", Rule: api.RuleInt, Single: true}, {Name: "b-", Rule: api.RuleIgnore}}
	classes := []api.Class{
		{Name: "One", Must: []string{"z-9", "A", "a"}, May: []string{"B", "A", "OBJECTCLASS"}},
		{Name: "two", Must: []string{"b"}},
		{Name: "A", May: []string{"b-", "B2"}},
		{Name: "objectClass"},
	}
	s := made(t, types, classes)
	for _, want := range append(types, class) {
		name := want.Name
		want.Name = strings.ToLower(name)
		for _, asked := range []string{name, strings.ToLower(name), strings.ToUpper(name)} {
			if got, ok := s.Type(asked); !ok || got != want {
				t.Errorf("Type of %q: %v, %t", asked, got, ok)
			}
		}
	}
	for _, want := range []api.Class{
		{Name: "one", Must: []string{"z-9", "a", "a"}, May: []string{"b", "a", "objectclass"}},
		{Name: "two", Must: []string{"b"}},
		{Name: "a", May: []string{"b-", "b2"}},
		{Name: "objectclass"},
	} {
		for _, asked := range []string{want.Name, strings.ToUpper(want.Name)} {
			if got, ok := s.Class(asked); !ok || !isSame(got, want) {
				t.Errorf("Class of %q: %v, %t", asked, got, ok)
			}
		}
	}
	if got := s.Types(); !slices.Equal(got, []string{"a", "b", "b-", "b2", "objectclass", "z-9"}) {
		t.Errorf("Types: %q", got)
	}
}

// refused holds that New of types and classes has this error, and no schema.
func refused(t *testing.T, what string, types []api.Type, classes []api.Class, err api.Errno) {
	t.Helper()
	if s, got := New(types, classes); got != err || (s == nil) != (err != api.OK) {
		t.Errorf("New of %s: %v, %d, not %d", what, s, got, err)
	}
}

func TestNewLong(t *testing.T) {
	refused(t, "1024 types", called(many(1023)...), nil, api.OK)
	refused(t, "1025 types", called(many(1024)...), nil, api.ErrLong)
	refused(t, "2048 types", called(many(2047)...), nil, api.ErrLong)
	refused(t, "1024 classes", called(), classed(many(1024)...), api.OK)
	refused(t, "1025 classes", called(), classed(many(1025)...), api.ErrLong)
	refused(t, "1024 of both", called(many(1023)...), classed(many(1024)...), api.OK)
	refused(t, "1025 of both", called(many(1024)...), classed(many(1025)...), api.ErrLong)
	// What classes have is not counted.
	refused(t, "a class of many", called("a"), []api.Class{{Name: "c", Must: slices.Repeat([]string{"a"}, 2000), May: slices.Repeat([]string{"A"}, 2000)}}, api.OK)
	s, _ := New(called(many(1023)...), classed(many(1024)...))
	for _, name := range many(1023) {
		if got, ok := s.Type(name); !ok || got.Name != name {
			t.Fatalf("Type of %q: %v, %t", name, got, ok)
		}
		if got, ok := s.Class(name); !ok || got.Name != name {
			t.Fatalf("Class of %q: %v, %t", name, got, ok)
		}
	}
	if got := s.Types(); len(got) != 1024 || !slices.IsSorted(got) {
		t.Errorf("Types: %d", len(got))
	}
}

func TestNames(t *testing.T) {
	hold := func(name string, err api.Errno) {
		t.Helper()
		refused(t, "a type "+strconv.Quote(name), called("cn", name), nil, err)
		refused(t, "a class "+strconv.Quote(name), called(), classed("top", name), err)
	}
	for _, name := range []string{"a", "Z", "z", "A1", "a-", "a-b", "a--", "x0-9", "a" + strings.Repeat("-", 63), strings.Repeat("a", 64), "objectclasses"} {
		hold(name, api.OK)
	}
	for _, name := range []string{"", strings.Repeat("a", 65), strings.Repeat("a", 1<<16), " a", "a ", "a b", "1", "1a", "-", "-a", "a_b", "a.b", "2.5.4.3", "a;b", "a=b", "\u00e4", "a\u00e4", "\u212a", "a\u0661", "a\xff", "\x00"} {
		hold(name, api.ErrName)
	}
	for c := range 256 {
		b := byte(c)
		letter := b >= 'a' && b <= 'z' || b >= 'A' && b <= 'Z'
		first, behind := api.ErrName, api.ErrName
		if letter {
			first = api.OK
		}
		if letter || b >= '0' && b <= '9' || b == '-' {
			behind = api.OK
		}
		hold(string([]byte{b}), first)
		hold(string([]byte{b, 'q'}), first)
		hold(string([]byte{'q', b}), behind)
		hold(string([]byte{'q', b, 'q'}), behind)
	}
}

func TestRules(t *testing.T) {
	for rule := 1; rule <= 5; rule++ {
		refused(t, "rule "+strconv.Itoa(rule), append(called(), api.Type{Name: "a", Rule: rule}), nil, api.OK)
		refused(t, "objectclass of rule "+strconv.Itoa(rule), []api.Type{{Name: "objectclass", Rule: rule, Single: true}}, nil, api.OK)
	}
	for _, rule := range []int{0, 6, -1, 7, 1 << 32, 1<<32 + 1, math.MinInt, math.MaxInt} {
		refused(t, "rule "+strconv.Itoa(rule), append(called(), api.Type{Name: "a", Rule: rule}), nil, api.ErrArg)
		refused(t, "objectclass of rule "+strconv.Itoa(rule), []api.Type{{Name: "objectclass", Rule: rule}}, nil, api.ErrArg)
	}
}

func TestNewTwiceAndNone(t *testing.T) {
	for _, c := range []struct {
		what    string
		types   []api.Type
		classes []api.Class
		err     api.Errno
	}{
		{"nothing", nil, nil, api.ErrNone},
		{"lists that are empty", []api.Type{}, []api.Class{}, api.ErrNone},
		{"objectclass alone", called(), nil, api.OK},
		{"no objectclass", []api.Type{{Name: "cn", Rule: 1}}, classed("top"), api.ErrNone},
		{"objectclass as a class alone", []api.Type{{Name: "cn", Rule: 1}}, classed("objectclass"), api.ErrNone},
		{"objectclass in great letters", []api.Type{{Name: "OBJECTCLASS", Rule: 1}}, nil, api.OK},
		{"something longer than objectclass", []api.Type{{Name: "objectclass2", Rule: 1}}, nil, api.ErrNone},
		{"a type twice", called("a", "a"), nil, api.ErrTwice},
		{"a type twice, in other letters", called("Ab", "c", "aB"), nil, api.ErrTwice},
		{"objectclass twice", called("objectclass"), nil, api.ErrTwice},
		{"a type twice, of another rule", append(called("a"), api.Type{Name: "A", Rule: api.RuleDN, Single: true}), nil, api.ErrTwice},
		{"a class twice", called(), classed("a", "b", "a"), api.ErrTwice},
		{"a class twice, in other letters", called("a"), []api.Class{{Name: "xY", Must: []string{"a"}}, {Name: "Xy"}}, api.ErrTwice},
		{"a type and a class of one name", called("a", "b"), classed("A", "b"), api.OK},
		{"Must of none", called("a"), []api.Class{{Name: "c", Must: []string{"b"}}}, api.ErrNone},
		{"May of none", called("a"), []api.Class{{Name: "c", May: []string{"b"}}}, api.ErrNone},
		{"Must of none behind others", called("a"), []api.Class{{Name: "b", Must: []string{"a"}}, {Name: "c", Must: []string{"a", "c"}}}, api.ErrNone},
		{"May of none behind others", called("a"), []api.Class{{Name: "b", May: []string{"a"}}, {Name: "c", May: []string{"a", "objectclass", "c"}}}, api.ErrNone},
		{"Must of a class", called("a"), []api.Class{{Name: "b"}, {Name: "c", Must: []string{"b"}}}, api.ErrNone},
		{"Must of nothing", called("a"), []api.Class{{Name: "c", Must: []string{""}}}, api.ErrNone},
		{"May of what is no name", called("a"), []api.Class{{Name: "c", May: []string{"a "}}}, api.ErrNone},
		{"May of what is long", called("a"), []api.Class{{Name: "c", May: []string{strings.Repeat("a", 1<<16)}}}, api.ErrNone},
		{"Must and May in other letters", called("Ab"), []api.Class{{Name: "c", Must: []string{"aB"}, May: []string{"AB", "objectCLASS"}}}, api.OK},
		{"one of both lists", called("a"), []api.Class{{Name: "c", Must: []string{"a", "A"}, May: []string{"a", "A"}}}, api.OK},
	} {
		refused(t, c.what, c.types, c.classes, c.err)
	}
}

// TestNewOrder holds that of two errors the one that is asked first is told, wherever it stands.
func TestNewOrder(t *testing.T) {
	for _, c := range []struct {
		what    string
		types   []api.Type
		classes []api.Class
		err     api.Errno
	}{
		{"long and no name", append(called(many(1024)...), api.Type{Name: "-", Rule: 9}), nil, api.ErrLong},
		{"long classes and no name", called("-"), classed(many(1025)...), api.ErrLong},
		{"no name behind no rule", []api.Type{{Name: "a", Rule: 9}, {Name: "-", Rule: 1}}, nil, api.ErrName},
		{"no name and no rule in one", []api.Type{{Name: "", Rule: 0}}, nil, api.ErrName},
		{"no name behind twice", called("a", "A", "-"), nil, api.ErrName},
		{"no rule behind twice", append(called("a", "A"), api.Type{Name: "b"}), nil, api.ErrArg},
		{"no rule, and no class's name", append(called(), api.Type{Name: "b"}), classed(""), api.ErrArg},
		{"twice, and no class's name", called("a", "a"), classed(""), api.ErrTwice},
		{"no class's name behind twice", called(), classed("a", "A", ""), api.ErrName},
		{"no class's name, and Must of none", called(), []api.Class{{Name: "a", Must: []string{"x"}}, {Name: "-"}}, api.ErrName},
		{"a class twice, and Must of none", called(), []api.Class{{Name: "a", Must: []string{"x"}}, {Name: "A"}}, api.ErrTwice},
		{"a class twice, and no objectclass", nil, classed("a", "A"), api.ErrTwice},
		{"no class's name, and no objectclass", nil, classed(" "), api.ErrName},
	} {
		refused(t, c.what, c.types, c.classes, c.err)
	}
}

// at tells an attribute.
func at(name string, values ...string) api.Attr {
	return api.Attr{Type: name, Values: values}
}

// entry tells an entry with attributes.
func entry(attrs ...api.Attr) api.Entry {
	return api.Entry{DN: "cn=a", Attrs: attrs}
}

// person tells one that may be, and more attributes behind.
func person(more ...api.Attr) api.Entry {
	return entry(append([]api.Attr{at("objectClass", "top", "Person"), at("CN", "a"), at("sn", "b")}, more...)...)
}

var (
	nines = strings.Repeat("9", 32)
	long  = strings.Repeat("a", 4096)
)

var checks = []struct {
	what string
	e    api.Entry
	want int
}{
	{"a person", person(), api.Success},
	{"a person with all", person(at("description", "x", "y"), at("userPassword", "\x00"), at("MAIL", "a@b"), at("uid", "a"), at("uidNumber", "007"), at("serialnumber", "1", "a", "A"), at("member", "cn=a", "cn=b")), api.Success},
	{"a person without sn", entry(at("objectclass", "person"), at("cn", "a")), api.ClassViolation},
	{"a person without cn", entry(at("objectclass", "person"), at("sn", "a")), api.ClassViolation},
	{"a person without both", entry(at("objectclass", "person")), api.ClassViolation},
	{"another order", entry(at("sn", "b"), at("mail", "x"), at("cn", "a"), at("objectclass", "person")), api.Success},
	{"top alone", entry(at("objectclass", "top")), api.Success},
	{"top in other letters", entry(at("OBJECTCLASS", "TOP")), api.Success},
	{"top and something", entry(at("objectclass", "top"), at("cn", "a")), api.ClassViolation},
	{"a domain", entry(at("objectclass", "domain"), at("dc", "b"), at("o", "c"), at("description", "d")), api.Success},
	{"a domain without dc", entry(at("objectclass", "domain"), at("o", "c")), api.ClassViolation},
	{"a domain with cn", entry(at("objectclass", "domain"), at("dc", "b"), at("cn", "c")), api.ClassViolation},
	{"an organizational unit", entry(at("objectclass", "organizationalUnit"), at("ou", "b"), at("member", "")), api.Success},
	{"an organizational unit with o", entry(at("objectclass", "organizationalUnit"), at("ou", "b"), at("o", "c")), api.ClassViolation},
	{"a group", entry(at("objectclass", "group"), at("cn", "b"), at("member", "cn=a,dc=b"), at("description", "d")), api.Success},
	{"a group with sn", entry(at("objectclass", "group"), at("cn", "b"), at("sn", "b")), api.ClassViolation},
	{"a group that is a person", entry(at("objectclass", "group", "person"), at("cn", "b"), at("sn", "b")), api.Success},
	{"a domain that is a unit", entry(at("objectclass", "domain", "organizationalunit"), at("dc", "b"), at("ou", "b"), at("o", "b"), at("member", "cn=a")), api.Success},
	{"a domain that is a unit, without ou", entry(at("objectclass", "domain", "organizationalunit"), at("dc", "b")), api.ClassViolation},
	{"a domain that is a unit, with cn", entry(at("objectclass", "domain", "organizationalunit"), at("dc", "b"), at("ou", "b"), at("cn", "b")), api.ClassViolation},
	{"no name", api.Entry{Attrs: person().Attrs}, api.Success},
	{"a name that is none", api.Entry{DN: "=,", Attrs: person().Attrs}, api.Success},

	// The zero one, and such as have no class.
	{"the zero one", api.Entry{}, api.ClassViolation},
	{"an empty list", entry([]api.Attr{}...), api.ClassViolation},
	{"no objectclass", entry(at("cn", "a"), at("sn", "b")), api.ClassViolation},
	{"no such class", entry(at("objectclass", "none")), api.ClassViolation},
	{"no such class among others", entry(at("objectclass", "person", "none"), at("cn", "a"), at("sn", "b")), api.ClassViolation},
	{"a type as a class", entry(at("objectclass", "cn")), api.ClassViolation},
	{"a class with blanks", entry(at("objectclass", " top")), api.ClassViolation},
	{"a class with a blank behind", entry(at("objectclass", "person", "top "), at("cn", "a"), at("sn", "b")), api.ClassViolation},

	// Types.
	{"no such type", person(at("x", "a")), api.UndefinedType},
	{"no such type first", entry(at("x", "a"), at("objectclass", "top")), api.UndefinedType},
	{"a type without a name", person(at("", "a")), api.UndefinedType},
	{"a type with a blank", person(at("mail ", "a")), api.UndefinedType},
	{"a class as a type", person(at("person", "a")), api.UndefinedType},
	{"a long type", person(at(strings.Repeat("mail", 1<<16), "a")), api.UndefinedType},

	// No values.
	{"no values", person(api.Attr{Type: "mail"}), api.Constraint},
	{"an empty list of values", person(api.Attr{Type: "mail", Values: []string{}}), api.Constraint},
	{"no class", entry(at("objectclass")), api.Constraint},
	{"no values of what a class has not", person(at("dc")), api.Constraint},

	// Values that are none.
	{"a text of nothing", person(at("mail", "")), api.InvalidSyntax},
	{"a text of blanks", person(at("mail", "a", "  ")), api.InvalidSyntax},
	{"a number that is none", person(at("uidnumber", "x")), api.InvalidSyntax},
	{"a number of 32 digits", person(at("uidnumber", nines)), api.Success},
	{"a number of 33 digits", person(at("uidnumber", nines+"9")), api.InvalidSyntax},
	{"a number below 0", person(at("uidnumber", "-1")), api.Success},
	{"a name that is none among names", person(at("member", "cn=a", "a")), api.InvalidSyntax},
	{"a name of nothing", person(at("member", "")), api.Success},
	{"bytes of nothing", person(at("userpassword", "")), api.Success},
	{"a text of 4096 bytes", person(at("mail", long)), api.Success},
	{"a text of 4097 bytes", person(at("mail", long+"a")), api.InvalidSyntax},
	{"bytes, 4097", person(at("userpassword", long+"a")), api.InvalidSyntax},
	{"an exact text of nothing", person(at("serialnumber", " ")), api.InvalidSyntax},
	{"a class of nothing", entry(at("objectclass", "")), api.InvalidSyntax},
	{"a class of 4097 bytes", entry(at("objectclass", long+"a")), api.InvalidSyntax},

	// The same twice.
	{"a value twice", person(at("mail", "a", "a")), api.AttrExists},
	{"a value twice, as it counts", person(at("mail", "A  b", "c", " a B ")), api.AttrExists},
	{"a value of its own letters twice", person(at("serialnumber", "A  b", "a b", "A b")), api.AttrExists},
	{"values of other letters", person(at("serialnumber", "A b", "a b")), api.Success},
	{"a name twice", person(at("member", "cn=A,dc=b", "CN = a, DC = B")), api.AttrExists},
	{"a name twice, of no parts", person(at("member", "", "")), api.AttrExists},
	{"a class twice", entry(at("objectclass", "top", "TOP")), api.AttrExists},
	{"a type twice", person(at("mail", "a"), at("mail", "b")), api.AttrExists},
	{"a type twice, in other letters", person(at("mail", "a"), at("uid", "a"), at("Mail", "b")), api.AttrExists},
	{"a type twice, of one value", person(at("mail", "a"), at("mail", "a")), api.AttrExists},
	{"objectclass twice", entry(at("objectclass", "top"), at("objectClass", "person"), at("cn", "a"), at("sn", "b")), api.AttrExists},
	{"a value in two attributes", person(at("mail", "a"), at("uid", "a"), at("description", "a")), api.Success},

	// Two of one at most.
	{"two of one at most", person(at("uid", "a", "b")), api.Constraint},
	{"two numbers of one at most", person(at("uidnumber", "1", "2")), api.Constraint},
	{"two passwords", person(at("userpassword", "a", "A")), api.Constraint},
	{"three of one at most", person(at("uid", "a", "b", "c")), api.Constraint},

	// What is asked first, of all attributes.
	{"no type behind no values", person(at("mail"), at("x", "a")), api.UndefinedType},
	{"no type and no values", person(at("x")), api.UndefinedType},
	{"no type behind no value", person(at("mail", ""), at("x", "a")), api.UndefinedType},
	{"no type behind one twice", person(at("mail", "a", "a"), at("x", "a")), api.UndefinedType},
	{"no type behind two", person(at("uid", "a", "b"), at("x", "a")), api.UndefinedType},
	{"no type, and no class", entry(at("objectclass", "none"), at("x", "a")), api.UndefinedType},
	{"no values behind no value", person(at("mail", ""), at("uid")), api.Constraint},
	{"no values behind one twice", person(at("mail", "a", "a"), at("description")), api.Constraint},
	{"no values of a type that is there twice", person(at("mail", "a"), at("mail")), api.Constraint},
	{"no value behind one twice", person(at("mail", "a", "a"), at("description", "")), api.InvalidSyntax},
	{"no value behind a type twice", person(at("mail", "a"), at("mail", "b"), at("description", "")), api.InvalidSyntax},
	{"no value behind two", person(at("uid", "a", "b"), at("mail", "")), api.InvalidSyntax},
	{"no value twice", person(at("mail", "", "")), api.InvalidSyntax},
	{"no value, and no class", entry(at("mail", "")), api.InvalidSyntax},
	{"one twice behind two", person(at("uid", "a", "b"), at("mail", "a", "a")), api.AttrExists},
	{"a type twice behind two", person(at("uid", "a", "b"), at("mail", "a"), at("MAIL", "b")), api.AttrExists},
	{"twice of one at most", person(at("uid", "a", "A")), api.AttrExists},
	{"a type of one at most twice", person(at("uid", "a"), at("uid", "b")), api.AttrExists},
	{"one twice, and no class", entry(at("mail", "a", "a")), api.AttrExists},
	{"two, and no class", entry(at("uid", "a", "b")), api.Constraint},
	{"two, and no such class", entry(at("objectclass", "none"), at("uid", "a", "b")), api.Constraint},
}

func TestCheck(t *testing.T) {
	s := Plain()
	for _, c := range checks {
		if got := s.Check(c.e); got != c.want {
			t.Errorf("Check of %s: %d, not %d", c.what, got, c.want)
		}
	}
}

// TestCheckMusts holds of each class of the plain schema that it needs what it must, and nothing that it may.
func TestCheckMusts(t *testing.T) {
	s := Plain()
	for _, c := range plainList {
		for _, kind := range plainTable {
			if kind.Name == "objectclass" {
				continue
			}
			attrs := []api.Attr{at("objectclass", c.Name)}
			for _, name := range c.Must {
				if name != kind.Name {
					attrs = append(attrs, at(name, "a"))
				}
			}
			without, with := api.Success, api.ClassViolation
			if slices.Contains(c.Must, kind.Name) {
				without = api.ClassViolation
			}
			if slices.Contains(c.Must, kind.Name) || slices.Contains(c.May, kind.Name) {
				with = api.Success
			}
			if got := s.Check(entry(attrs...)); got != without {
				t.Errorf("Check of %s without %s: %d", c.Name, kind.Name, got)
			}
			value := "1"
			if kind.Rule == api.RuleDN {
				value = "cn=a"
			}
			if got := s.Check(entry(append(attrs, at(kind.Name, value))...)); got != with {
				t.Errorf("Check of %s with %s: %d", c.Name, kind.Name, got)
			}
		}
	}
}

func TestCheckOwn(t *testing.T) {
	classes := []api.Class{{Name: "c", Must: []string{"objectclass", "A"}, May: []string{"a", "B"}}, {Name: "d", May: []string{"c", "c"}}}
	s := made(t, []api.Type{{Name: "a", Rule: api.RuleInt}, {Name: "B", Rule: api.RuleOctet}, {Name: "c", Rule: api.RuleDN, Single: true}}, classes)
	for _, c := range []struct {
		what string
		e    api.Entry
		want int
	}{
		{"what must be", entry(at("objectclass", "C"), at("a", "1")), api.Success},
		{"what may be", entry(at("objectclass", "c"), at("A", "1", "-1"), at("b", "", "a", "A", " a", "a  b", "a b")), api.Success},
		{"numbers that are the same", entry(at("objectclass", "c"), at("A", "7", "007")), api.AttrExists},
		{"noughts that are the same", entry(at("objectclass", "c"), at("A", "0", "-0")), api.AttrExists},
		{"bytes that are the same", entry(at("objectclass", "c"), at("A", "7"), at("b", "x", "", "")), api.AttrExists},
		{"two names", entry(at("objectclass", "c", "d"), at("A", "7"), at("c", "x=y", "x=z")), api.Constraint},
		{"another class's", entry(at("objectclass", "c"), at("A", "7"), at("c", "x=y")), api.ClassViolation},
		{"that class's too", entry(at("objectclass", "d", "c"), at("A", "7"), at("c", "x=y")), api.Success},
	} {
		if got := s.Check(c.e); got != c.want {
			t.Errorf("Check of %s: %d, not %d", c.what, got, c.want)
		}
	}
}

// TestCheckClassRule asks of each rule that values of objectclass may have what they are when they name a class twice.
func TestCheckClassRule(t *testing.T) {
	both := entry(at("objectclass", "c", "C"), at("a", "x"))
	one := entry(at("objectclass", "C"), at("a", "x"))
	for _, c := range []struct{ rule, both, one int }{
		{api.RuleIgnore, api.AttrExists, api.Success},
		{api.RuleExact, api.Success, api.Success},
		{api.RuleInt, api.InvalidSyntax, api.InvalidSyntax},
		{api.RuleOctet, api.Success, api.Success},
		{api.RuleDN, api.InvalidSyntax, api.InvalidSyntax},
	} {
		s, err := New([]api.Type{{Name: "objectclass", Rule: c.rule}, {Name: "a", Rule: api.RuleIgnore}}, []api.Class{{Name: "c", Must: []string{"a"}}})
		if err != api.OK {
			t.Fatalf("New: %d", err)
		}
		if got := s.Check(both); got != c.both {
			t.Errorf("Check of a class twice, by %d: %d", c.rule, got)
		}
		if got := s.Check(one); got != c.one {
			t.Errorf("Check of a class, by %d: %d", c.rule, got)
		}
	}
	s, _ := New([]api.Type{{Name: "objectclass", Rule: api.RuleIgnore, Single: true}}, classed("c", "d"))
	if got := s.Check(entry(at("objectclass", "c", "d"))); got != api.Constraint {
		t.Errorf("Check of two classes where one may be: %d", got)
	}
}

// slow tells what Check must be, by asking each pair of things, in the chapter's words.
func slow(types []api.Type, classes []api.Class, e api.Entry) int {
	kind := func(name string) int {
		return slices.IndexFunc(types, func(t api.Type) bool { return strings.EqualFold(t.Name, name) })
	}
	has := func(list []string, name string) bool {
		return slices.ContainsFunc(list, func(s string) bool { return strings.EqualFold(s, name) })
	}
	var there, allowed []string
	for _, a := range e.Attrs {
		if kind(a.Type) < 0 {
			return 17
		}
		there = append(there, a.Type)
	}
	for _, a := range e.Attrs {
		if len(a.Values) == 0 {
			return 19
		}
	}
	for _, a := range e.Attrs {
		for _, v := range a.Values {
			if _, ok := rules.Norm(types[kind(a.Type)].Rule, v); !ok {
				return 21
			}
		}
	}
	for i, a := range e.Attrs {
		for j, v := range a.Values {
			for _, w := range a.Values[:j] {
				if rules.Equal(types[kind(a.Type)].Rule, v, w) == api.True {
					return 20
				}
			}
		}
		if has(there[:i], a.Type) {
			return 20
		}
	}
	for _, a := range e.Attrs {
		if types[kind(a.Type)].Single && len(a.Values) > 1 {
			return 19
		}
	}
	if !has(there, "objectclass") {
		return 65
	}
	for _, a := range e.Attrs {
		if !strings.EqualFold(a.Type, "objectclass") {
			continue
		}
		for _, v := range a.Values {
			i := slices.IndexFunc(classes, func(c api.Class) bool { return strings.EqualFold(c.Name, v) })
			if i < 0 {
				return 65
			}
			for _, m := range classes[i].Must {
				if !has(there, m) {
					return 65
				}
			}
			allowed = append(append(allowed, classes[i].Must...), classes[i].May...)
		}
	}
	for _, name := range there {
		if !strings.EqualFold(name, "objectclass") && !has(allowed, name) {
			return 65
		}
	}
	return 0
}

// TestCheckOfAll holds Check of all entries of up to four attributes out of some against slow.
func TestCheckOfAll(t *testing.T) {
	types := []api.Type{{Name: "objectclass", Rule: 1}, {Name: "A", Rule: 3}, {Name: "b", Rule: 2, Single: true}, {Name: "d", Rule: 4}}
	classes := []api.Class{{Name: "None"}, {Name: "must", Must: []string{"a"}, May: []string{"B"}}, {Name: "may", May: []string{"A", "d"}}}
	s, err := New(types, classes)
	if err != api.OK {
		t.Fatalf("New: %d", err)
	}
	some := []api.Attr{
		at("objectClass", "none"), at("objectclass", "Must"), at("OBJECTCLASS", "may", "MUST"), at("objectclass", "x"), at("objectclass", "may", "May"),
		at("a", "1"), at("A", "1", "2"), at("a", "01", "1"), at("a", "x"), at("a"),
		at("b", "y"), at("b", "y", "Y"), at("B", "y ", "y"), at("b", " "),
		at("d", "", " "), at("D", "q", "q"), at("x", "1"),
	}
	n := 0
	told := map[int]int{}
	var all func(attrs []api.Attr)
	all = func(attrs []api.Attr) {
		e := entry(attrs...)
		want := slow(types, classes, e)
		if got := s.Check(e); got != want {
			t.Fatalf("Check of %q: %d, not %d", e, got, want)
		}
		n++
		told[want]++
		if len(attrs) == 4 {
			return
		}
		for _, a := range some {
			all(append(slices.Clip(attrs), a))
		}
	}
	all(nil)
	if n != 1+17+17*17+17*17*17+17*17*17*17 {
		t.Errorf("%d entries", n)
	}
	for _, code := range []int{api.Success, api.UndefinedType, api.Constraint, api.AttrExists, api.InvalidSyntax, api.ClassViolation} {
		if told[code] == 0 {
			t.Errorf("no entry was told %d", code)
		}
	}
}

// TestCheckMany holds that many values, attributes and classes are gone over, and end.
func TestCheckMany(t *testing.T) {
	s := made(t, called(many(1000)...)[1:], []api.Class{{Name: "all", Must: many(1000)}, {Name: "some", May: slices.Repeat(many(1000), 100)}})
	e := entry(at("objectclass", "some"), at("n0", many(1<<16)...))
	if got := s.Check(e); got != api.Success {
		t.Errorf("Check of many values: %d", got)
	}
	e.Attrs[1].Values = append(many(1<<16), "N65535")
	if got := s.Check(e); got != api.AttrExists {
		t.Errorf("Check of many values, one twice: %d", got)
	}
	e = entry(at("objectclass", "all"))
	for _, name := range many(1000) {
		if got := s.Check(e); got != api.ClassViolation {
			t.Fatalf("Check ahead of %s: %d", name, got)
		}
		e.Attrs = append(e.Attrs, at(strings.ToUpper(name), "a"))
	}
	if got := s.Check(e); got != api.Success {
		t.Errorf("Check of many attributes: %d", got)
	}
	e.Attrs[0] = at("objectclass", "some")
	if got := s.Check(e); got != api.Success {
		t.Errorf("Check of many attributes that may be: %d", got)
	}
	e = entry(slices.Repeat([]api.Attr{at("n0", "a")}, 1<<16)...)
	if got := s.Check(e); got != api.AttrExists {
		t.Errorf("Check of an attribute many times: %d", got)
	}
}

// TestStay holds that what is handed in stays, and that nobody who writes to what is handed in, or out, changes the schema.
func TestStay(t *testing.T) {
	types := []api.Type{{Name: "ObjectClass", Rule: 1}, {Name: "A", Rule: 1}, {Name: "B", Rule: 1}}
	classes := []api.Class{{Name: "C", Must: []string{"A"}, May: []string{"B"}}}
	s, err := New(types, classes)
	if err != api.OK {
		t.Fatalf("New: %d", err)
	}
	e := entry(at("OBJECTCLASS", "C"), at("B", " X  x "), at("A", "Y"))
	if got := s.Check(e); got != api.Success {
		t.Errorf("Check: %d", got)
	}
	if types[1].Name != "A" || classes[0].Name != "C" || classes[0].Must[0] != "A" || classes[0].May[0] != "B" {
		t.Errorf("what was handed in is now %v, %v", types, classes)
	}
	if e.Attrs[0].Type != "OBJECTCLASS" || e.Attrs[0].Values[0] != "C" || e.Attrs[1].Values[0] != " X  x " {
		t.Errorf("the entry is now %q", e)
	}
	types[1].Name, classes[0].Name, classes[0].Must[0], classes[0].May[0] = "x", "x", "x", "x"
	out, _ := s.Class("c")
	out.Must[0], out.May[0] = "y", "y"
	s.Types()[0] = "y"
	if got, ok := s.Type("a"); !ok || got.Name != "a" {
		t.Errorf("Type of a: %v, %t", got, ok)
	}
	if got, ok := s.Class("c"); !ok || !isSame(got, api.Class{Name: "c", Must: []string{"a"}, May: []string{"b"}}) {
		t.Errorf("Class of c: %v, %t", got, ok)
	}
	if got := s.Types(); !slices.Equal(got, []string{"a", "b", "objectclass"}) {
		t.Errorf("Types: %q", got)
	}
	if got := s.Check(e); got != api.Success {
		t.Errorf("Check: %d", got)
	}
}

func TestNil(t *testing.T) {
	var s *Schema
	for _, name := range []string{"", "cn", "objectclass", "top"} {
		if got, ok := s.Type(name); ok || got != (api.Type{}) {
			t.Errorf("Type of %q: %v, %t", name, got, ok)
		}
		if got, ok := s.Class(name); ok || !isSame(got, api.Class{}) {
			t.Errorf("Class of %q: %v, %t", name, got, ok)
		}
	}
	if got := s.Types(); len(got) != 0 {
		t.Errorf("Types: %q", got)
	}
	for _, e := range []api.Entry{{}, person(), person(at("x", "a"))} {
		if got := s.Check(e); got != api.Other {
			t.Errorf("Check: %d", got)
		}
	}
}

// TestZero holds that a schema that New did not make does not panic.
func TestZero(t *testing.T) {
	s := &Schema{}
	if _, ok := s.Type("cn"); ok {
		t.Error("a type is there")
	}
	if _, ok := s.Class("top"); ok {
		t.Error("a class is there")
	}
	if got := s.Types(); len(got) != 0 {
		t.Errorf("Types: %q", got)
	}
	if got := s.Check(person()); got != api.UndefinedType {
		t.Errorf("Check of a person: %d", got)
	}
	if got := s.Check(api.Entry{}); got != api.ClassViolation {
		t.Errorf("Check of the zero one: %d", got)
	}
}

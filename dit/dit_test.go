package dit

import (
	"math/rand"
	"slices"
	"strconv"
	"strings"
	"testing"

	"bothy/api"
	"bothy/schema"
)

// at tells an attribute.
func at(name string, values ...string) api.Attr {
	return api.Attr{Type: name, Values: values}
}

// of tells an entry.
func of(name string, attrs ...api.Attr) api.Entry {
	return api.Entry{DN: name, Attrs: attrs}
}

// domain tells a domain that may be.
func domain(name string, more ...api.Attr) api.Entry {
	value, _, _ := strings.Cut(strings.TrimPrefix(name, "dc="), ",")
	return of(name, append([]api.Attr{at("objectclass", "domain"), at("dc", value)}, more...)...)
}

// named tells e with another name.
func named(name string, e api.Entry) api.Entry { return of(name, e.Attrs...) }

// unit tells a unit with these values of ou.
func unit(name string, values ...string) api.Entry {
	return of(name, at("objectclass", "organizationalunit"), at("ou", values...))
}

// group tells a group with these values of cn.
func group(name string, values ...string) api.Entry {
	return of(name, at("objectclass", "group"), at("cn", values...))
}

// person tells a person with these attributes beside the class.
func person(name string, more ...api.Attr) api.Entry {
	return of(name, append([]api.Attr{at("objectclass", "person")}, more...)...)
}

// rising tells e, each of whose types stands there once, in small letters, with these rising.
func rising(e api.Entry) api.Entry {
	e = copied(e)
	slices.SortFunc(e.Attrs, func(a, b api.Attr) int { return strings.Compare(a.Type, b.Type) })
	return e
}

// isEntry tells whether both are the same, just as they stand.
func isEntry(a, b api.Entry) bool {
	return a.DN == b.DN && slices.EqualFunc(a.Attrs, b.Attrs, func(a, b api.Attr) bool {
		return a.Type == b.Type && slices.Equal(a.Values, b.Values)
	})
}

// copied tells e with memory of its own.
func copied(e api.Entry) api.Entry {
	var attrs []api.Attr
	for _, a := range e.Attrs {
		attrs = append(attrs, at(a.Type, slices.Clone(a.Values)...))
	}
	return of(e.DN, attrs...)
}

// spoil writes to all that e has, and behind it as far as its lists reach.
func spoil(e api.Entry) {
	all := e.Attrs[:cap(e.Attrs)]
	for i, a := range all {
		for k := range a.Values[:cap(a.Values)] {
			a.Values[:cap(a.Values)][k] = "spoilt"
		}
		all[i] = at("spoilt", "spoilt")
	}
}

// tree tells a tree of the plain schema that has these entries.
func tree(t *testing.T, list ...api.Entry) *Tree {
	t.Helper()
	d := New(schema.Plain())
	put(t, d, list...)
	return d
}

// put adds these entries to d.
func put(t *testing.T, d *Tree, list ...api.Entry) {
	t.Helper()
	for _, e := range list {
		if code := d.Add(e); code != api.Success {
			t.Fatalf("Add of %q: %d", e, code)
		}
	}
}

// state tells all that d has, in its order.
func state(d *Tree) []api.Entry {
	var list []api.Entry
	for _, name := range d.Names() {
		e, _ := d.Get(name)
		list = append(list, e)
	}
	return list
}

// isState tells whether both have the same entries in one order.
func isState(a, b []api.Entry) bool { return slices.EqualFunc(a, b, isEntry) }

// full tells a tree of n entries: dc=b, and domains below it.
func full(t *testing.T, n int) *Tree {
	t.Helper()
	d := tree(t, domain("dc=b"))
	for i := 1; i < n; i++ {
		put(t, d, domain("dc=x"+strconv.Itoa(i)+",dc=b"))
	}
	return d
}

func TestNew(t *testing.T) {
	s := schema.Plain()
	d := New(s)
	if d == nil || d.Len() != 0 || len(d.Names()) != 0 || len(d.Below("")) != 0 || d.Schema() != s {
		t.Errorf("New: %v", d)
	}
	for _, name := range []string{"", "dc=b", "DC=b"} {
		if e, ok := d.Get(name); ok || !isEntry(e, api.Entry{}) {
			t.Errorf("Get of %q: %q, %t", name, e, ok)
		}
		if code := d.Delete(name); code != api.NoObject {
			t.Errorf("Delete of %q: %d", name, code)
		}
	}
}

// chain tells a name of n parts, each of them dc=a.
func chain(n int) string {
	return strings.TrimSuffix(strings.Repeat("dc=a,", n), ",")
}

// codes are entries, put one by one into a tree that has dc=b, ou=x,dc=b and cn=g,ou=x,dc=b, and what Add tells of each; none stays.
var codes = []struct {
	what string
	e    api.Entry
	want int
}{
	{"one below dc=b", domain("dc=a,dc=b"), api.Success},
	{"one below nothing", domain("dc=c"), api.Success},
	{"one below the last one", group("cn=h,cn=g,ou=x,dc=b", "h"), api.Success},
	{"one like the one above it", domain("dc=b,dc=b"), api.Success},
	{"no name", domain(""), api.InvalidDN},
	{"great letters of a type", named("DC=c", domain("dc=c")), api.InvalidDN},
	{"great letters of a value", named("dc=C", domain("dc=c")), api.InvalidDN},
	{"a blank behind a comma", named("dc=a, dc=b", domain("dc=a")), api.InvalidDN},
	{"pairs that do not rise", person("sn=s+cn=c,dc=b", at("cn", "c"), at("sn", "s")), api.InvalidDN},
	{"no text of a name", named("dc", domain("dc=c")), api.InvalidDN},
	{"33 parts", named(chain(33), domain("dc=a")), api.InvalidDN},
	{"one that is there, in other letters", named("DC=b", domain("dc=b")), api.InvalidDN},
	{"one that is not normal, and wrong", of("DC=c"), api.InvalidDN},
	{"one that is there", domain("dc=b"), api.EntryExists},
	{"one that is there below", unit("ou=x,dc=b", "x"), api.EntryExists},
	{"one that is there, and wrong", of("dc=b", at("nothing")), api.EntryExists},
	{"one that is there, and is not named so", domain("dc=b", at("dc", "c")), api.EntryExists},
	{"nothing above", domain("dc=a,dc=c"), api.NoObject},
	{"nothing right above", domain("dc=a,dc=y,dc=b"), api.NoObject},
	{"nothing above, but the own part is there", named("dc=b,dc=c", domain("dc=b")), api.NoObject},
	{"nothing above, and wrong", of("dc=a,dc=c", at("nothing")), api.NoObject},
	{"nothing above, and not named so", named("dc=a,dc=c", domain("dc=x")), api.NoObject},
	{"no such type", domain("dc=c", at("nothing", "a")), api.UndefinedType},
	{"no values", domain("dc=c", at("description")), api.Constraint},
	{"no value of its type", person("cn=c", at("cn", "c"), at("sn", "s"), at("uidnumber", "x")), api.InvalidSyntax},
	{"a text twice", domain("dc=c", at("description", "d", "d")), api.AttrExists},
	{"values that count as the same", domain("dc=c", at("description", "d", "D")), api.AttrExists},
	{"a type twice", domain("dc=c", at("DC", "c")), api.AttrExists},
	{"two of what may be there once", person("cn=c", at("cn", "c"), at("sn", "s"), at("uid", "u", "v")), api.Constraint},
	{"no attributes", of("dc=c"), api.ClassViolation},
	{"no class", of("dc=c", at("dc", "c")), api.ClassViolation},
	{"no such class", of("dc=c", at("objectclass", "nothing"), at("dc", "c")), api.ClassViolation},
	{"what the class has not", domain("dc=c", at("sn", "s")), api.ClassViolation},
	{"without what must be", person("cn=c", at("cn", "c")), api.ClassViolation},
	{"wrong, and not named so", of("dc=c", at("objectclass", "domain")), api.ClassViolation},
	{"no such type, and not named so", of("dc=c", at("nothing", "a")), api.UndefinedType},
	{"another value", named("dc=c", domain("dc=x")), api.Naming},
	{"another value below", named("dc=c,dc=b", domain("dc=b")), api.Naming},
	{"no such attribute", named("o=c", domain("dc=c")), api.Naming},
	{"an attribute of a type that there is not", named("x=c", domain("dc=c")), api.Naming},
	{"a part of the value", named("dc=c", domain("dc=cc")), api.Naming},
	{"one of two pairs", person("cn=c+sn=t", at("cn", "c"), at("sn", "s")), api.Naming},
	{"the other one of two pairs", person("cn=d+sn=s", at("cn", "c"), at("sn", "s")), api.Naming},
	{"two pairs, one of a type that there is not", person("cn=c+x=s", at("cn", "c"), at("sn", "s")), api.Naming},
}

// small tells the tree that codes are told of.
func small(t *testing.T) *Tree {
	t.Helper()
	return tree(t, domain("dc=b"), unit("ou=x,dc=b", "x"), group("cn=g,ou=x,dc=b", "g"))
}

func TestAdd(t *testing.T) {
	for _, c := range codes {
		d := small(t)
		was := state(d)
		if got := d.Add(c.e); got != c.want {
			t.Errorf("Add of %s: %d", c.what, got)
		}
		e, ok := d.Get(c.e.DN)
		if c.want == api.Success {
			if !ok || e.DN != c.e.DN || d.Len() != 4 {
				t.Errorf("Add of %s: %q, %t of %d is there", c.what, e, ok, d.Len())
			}
			continue
		}
		if d.Len() != 3 || !isState(state(d), was) {
			t.Errorf("Add of %s changed the tree: %q", c.what, state(d))
		}
	}
}

func TestReplace(t *testing.T) {
	for _, c := range []struct {
		what string
		e    api.Entry
		want int
	}{
		{"what stands above others", domain("dc=b", at("o", "o")), api.Success},
		{"what stands below others", unit("ou=x,dc=b", "X", "y"), api.Success},
		{"another class", of("cn=g,ou=x,dc=b", at("objectclass", "person"), at("cn", "g"), at("sn", "s")), api.Success},
		{"no name", domain(""), api.NoObject},
		{"what is not there", domain("dc=c"), api.NoObject},
		{"what is not there below", domain("dc=a,dc=b"), api.NoObject},
		{"the own part alone", unit("ou=x", "x"), api.NoObject},
		{"a name in other letters", named("DC=b", domain("dc=b")), api.NoObject},
		{"a name with a blank", named("ou=x, dc=b", unit("", "x")), api.NoObject},
		{"no text of a name", named("dc", domain("dc=c")), api.NoObject},
		{"what is not there, and wrong", of("dc=c", at("nothing")), api.NoObject},
		{"what is not there, and not named so", domain("dc=c", at("dc", "x")), api.NoObject},
		{"no such type", domain("dc=b", at("nothing", "a")), api.UndefinedType},
		{"no values", domain("dc=b", at("description")), api.Constraint},
		{"no value of its type", named("cn=g,ou=x,dc=b", person("", at("cn", "g"), at("sn", "s"), at("uidnumber", "x"))), api.InvalidSyntax},
		{"a text twice", domain("dc=b", at("description", "d", "d")), api.AttrExists},
		{"two of what may be there once", named("cn=g,ou=x,dc=b", person("", at("cn", "g"), at("sn", "s"), at("uid", "u", "v"))), api.Constraint},
		{"no attributes", of("dc=b"), api.ClassViolation},
		{"wrong, and not named so", of("dc=b", at("objectclass", "domain")), api.ClassViolation},
		{"another value", named("dc=b", domain("dc=c")), api.Naming},
		{"another value below", unit("ou=x,dc=b", "b", "y"), api.Naming},
		{"no such attribute", named("dc=b", unit("", "b")), api.Naming},
	} {
		d := small(t)
		was := state(d)
		if got := d.Replace(c.e); got != c.want {
			t.Errorf("Replace of %s: %d", c.what, got)
		}
		if c.want != api.Success {
			if !isState(state(d), was) {
				t.Errorf("Replace of %s changed the tree: %q", c.what, state(d))
			}
			continue
		}
		for i, e := range was {
			if e.DN == c.e.DN {
				was[i] = rising(c.e)
			}
		}
		if !isState(state(d), was) {
			t.Errorf("Replace of %s: %q", c.what, state(d))
		}
	}
}

func TestDelete(t *testing.T) {
	d := small(t)
	for _, c := range []struct {
		name string
		want int
		left []string
	}{
		{"", api.NoObject, []string{"dc=b", "ou=x,dc=b", "cn=g,ou=x,dc=b"}},
		{"dc=c", api.NoObject, []string{"dc=b", "ou=x,dc=b", "cn=g,ou=x,dc=b"}},
		{"ou=x", api.NoObject, []string{"dc=b", "ou=x,dc=b", "cn=g,ou=x,dc=b"}},
		{"CN=g,ou=x,dc=b", api.NoObject, []string{"dc=b", "ou=x,dc=b", "cn=g,ou=x,dc=b"}},
		{"cn=g, ou=x,dc=b", api.NoObject, []string{"dc=b", "ou=x,dc=b", "cn=g,ou=x,dc=b"}},
		{"cn=g,", api.NoObject, []string{"dc=b", "ou=x,dc=b", "cn=g,ou=x,dc=b"}},
		{"dc=b", api.NonLeaf, []string{"dc=b", "ou=x,dc=b", "cn=g,ou=x,dc=b"}},
		{"ou=x,dc=b", api.NonLeaf, []string{"dc=b", "ou=x,dc=b", "cn=g,ou=x,dc=b"}},
		{"cn=g,ou=x,dc=b", api.Success, []string{"dc=b", "ou=x,dc=b"}},
		{"cn=g,ou=x,dc=b", api.NoObject, []string{"dc=b", "ou=x,dc=b"}},
		{"dc=b", api.NonLeaf, []string{"dc=b", "ou=x,dc=b"}},
		{"ou=x,dc=b", api.Success, []string{"dc=b"}},
		{"dc=b", api.Success, nil},
		{"dc=b", api.NoObject, nil},
	} {
		if got := d.Delete(c.name); got != c.want {
			t.Errorf("Delete of %q: %d", c.name, got)
		}
		if got := d.Names(); !slices.Equal(got, c.left) || d.Len() != len(c.left) {
			t.Errorf("Delete of %q: %q, %d are left", c.name, got, d.Len())
		}
		if _, ok := d.Get(c.name); ok != slices.Contains(c.left, c.name) {
			t.Errorf("Delete of %q: %t", c.name, ok)
		}
	}
	// What is gone may be there again, as another one.
	put(t, d, domain("dc=b", at("o", "o")), unit("ou=x,dc=b", "x", "y"))
	if e, _ := d.Get("ou=x,dc=b"); len(e.Attrs[1].Values) != 2 {
		t.Errorf("behind Delete: %q", e)
	}
	if _, ok := d.Get("cn=g,ou=x,dc=b"); ok {
		t.Error("what stood below is there again")
	}
}

// TestDeleteBeside holds that what stands beside, or has a like beginning or end, isn't below.
func TestDeleteBeside(t *testing.T) {
	d := New(schema.Plain())
	for _, name := range []string{"dc=b", "dc=a,dc=b", "dc=aa,dc=b", "dc=bb", "dc=a,dc=bb", `dc=x\,dc\=a,dc=b`, `ou=x\,dc\=bb,dc=b`, "dc=a", "dc=b,dc=a"} {
		put(t, d, like(name))
	}
	for _, name := range []string{"dc=a,dc=b", "dc=a,dc=bb", "dc=bb", "dc=b,dc=a", "dc=a"} {
		if code := d.Delete(name); code != api.Success {
			t.Errorf("Delete of %q: %d", name, code)
		}
	}
	if code := d.Delete("dc=b"); code != api.NonLeaf {
		t.Errorf("Delete of what others are below: %d", code)
	}
}

// TestClean holds that what comes in is there clean.
func TestClean(t *testing.T) {
	in := person("cn=al ko", at("SN", "s"), at("description", "y", "x", "Z"), at("Cn", "AL", " Al  Ko "), at("UIDNUMBER", "007"))
	want := of("cn=al ko", at("cn", "AL", " Al  Ko "), at("description", "y", "x", "Z"), at("objectclass", "person"), at("sn", "s"), at("uidnumber", "007"))
	d := tree(t, in)
	if got, ok := d.Get("cn=al ko"); !ok || !isEntry(got, want) {
		t.Errorf("Get behind Add: %q, %t", got, ok)
	}
	in = person("cn=al ko", at("sn", "t"), at("MAIL", "m"), at("CN", "al ko"))
	want = of("cn=al ko", at("cn", "al ko"), at("mail", "m"), at("objectclass", "person"), at("sn", "t"))
	if code := d.Replace(in); code != api.Success {
		t.Errorf("Replace: %d", code)
	}
	if got, ok := d.Get("cn=al ko"); !ok || !isEntry(got, want) {
		t.Errorf("Get behind Replace: %q, %t", got, ok)
	}
	for _, name := range []string{"", "CN=al ko", "cn=Al Ko", "cn=al  ko", "cn = al ko", "cn=al", "cn=al ko,", "cn=al ko,dc=b"} {
		if got, ok := d.Get(name); ok || !isEntry(got, api.Entry{}) {
			t.Errorf("Get of %q: %q, %t", name, got, ok)
		}
	}
}

// rules tells a schema that has a type of each rule, t1 to t5, of a class that may have all of them.
func rules(t *testing.T) *schema.Schema {
	t.Helper()
	types := []api.Type{{Name: "objectclass", Rule: api.RuleIgnore}}
	var may []string
	for rule := api.RuleIgnore; rule <= api.RuleDN; rule++ {
		name := "T" + strconv.Itoa(rule)
		types = append(types, api.Type{Name: name, Rule: rule})
		may = append(may, name)
	}
	s, err := schema.New(types, []api.Class{{Name: "All", May: may}})
	if err != api.OK {
		t.Fatalf("New: %d", err)
	}
	return s
}

// TestNaming holds that the own part's values are there, each by the rule of its type.
func TestNaming(t *testing.T) {
	s := rules(t)
	for _, c := range []struct {
		name  string
		attrs []api.Attr
		want  int
	}{
		{"t1=al ko", []api.Attr{at("T1", " AL  Ko")}, api.Success},
		{"t1=al ko", []api.Attr{at("t1", "x", "y", "Al ko", "z")}, api.Success},
		{"t1=al ko", []api.Attr{at("t1", "alko")}, api.Naming},
		{"t1=007", []api.Attr{at("t1", "7")}, api.Naming},
		{"t2=al ko", []api.Attr{at("t2", " al  ko")}, api.Success},
		{"t2=al ko", []api.Attr{at("t2", "Al ko")}, api.Naming},
		{"t3=007", []api.Attr{at("t3", "7")}, api.Success},
		{"t3=7", []api.Attr{at("t3", "8", "+0007", "007")}, api.InvalidSyntax},
		{"t3=7", []api.Attr{at("t3", "8", "007")}, api.Success},
		{"t3=7", []api.Attr{at("t3", "-7", "70")}, api.Naming},
		{"t3=a", []api.Attr{at("t3", "7")}, api.Naming},
		{"t4=al ko", []api.Attr{at("t4", "al ko")}, api.Success},
		{"t4=al ko", []api.Attr{at("t4", "al  ko", "Al ko")}, api.Naming},
		{`t5=cn\=a\,dc\=b`, []api.Attr{at("t5", "dc=b", "CN = A, DC=b")}, api.Success},
		{`t5=cn\=a\,dc\=b`, []api.Attr{at("t5", "dc=b", "cn=a")}, api.Naming},
		{"t5=a", []api.Attr{at("t5", "dc=a")}, api.Naming},
		// Bytes that have a backslash ahead in a name.
		{`t1=a\,b\+c\00`, []api.Attr{at("t1", "A,B+C\x00")}, api.Success},
		{`t1=a\,b`, []api.Attr{at("t1", `a\,b`)}, api.Naming},
		// More than one pair.
		{"t1=a+t2=b+t3=3", []api.Attr{at("t3", "03"), at("t1", "x", "A"), at("t2", "c", "b")}, api.Success},
		{"t1=a+t2=b+t3=3", []api.Attr{at("t3", "03"), at("t1", "x"), at("t2", "c", "b")}, api.Naming},
		{"t1=a+t2=b+t3=3", []api.Attr{at("t3", "03"), at("t1", "x", "A"), at("t2", "c", "B")}, api.Naming},
		{"t1=a+t2=b+t3=3", []api.Attr{at("t3", "30"), at("t1", "x", "A"), at("t2", "c", "b")}, api.Naming},
		{"t1=a+t2=b+t3=3", []api.Attr{at("t1", "a"), at("t2", "b")}, api.Naming},
		{"t1=a+t2=b+t6=c", []api.Attr{at("t1", "a"), at("t2", "b")}, api.Naming},
		// The value of another type, or one of a type that there is not.
		{"t1=a", []api.Attr{at("t2", "a")}, api.Naming},
		{"t1=a", nil, api.Naming},
		{"t6=a", []api.Attr{at("t1", "a")}, api.Naming},
		// A name's pairs may be of a type beside those that its class must have, the class too.
		{"objectclass=all", []api.Attr{at("t1", "a")}, api.Success},
		{"objectclass=top", []api.Attr{at("t1", "a")}, api.Naming},
	} {
		e := of(c.name, append([]api.Attr{at("objectclass", "ALL")}, c.attrs...)...)
		d := New(s)
		if got := d.Add(e); got != c.want {
			t.Errorf("Add of %q: %d", e, got)
		}
		if _, ok := d.Get(c.name); ok != (c.want == api.Success) {
			t.Errorf("Add of %q: %t", e, ok)
		}
	}
	// The own part alone is asked: above it may stand a name of values that the entry has not.
	d := New(s)
	put(t, d, of("t1=a", at("objectclass", "all"), at("t1", "a")), of("t1=b,t1=a", at("objectclass", "all"), at("t1", "b")))
}

// TestReplaceNaming holds that Replace asks the own part's values like Add.
func TestReplaceNaming(t *testing.T) {
	for _, c := range []struct {
		attrs []api.Attr
		want  int
	}{
		{[]api.Attr{at("t1", "x", "A"), at("t3", "03")}, api.Success},
		{[]api.Attr{at("t1", "x"), at("t3", "03")}, api.Naming},
		{[]api.Attr{at("t1", "a"), at("t3", "4")}, api.Naming},
		{[]api.Attr{at("t1", "a")}, api.Naming},
		{[]api.Attr{at("t1", "a"), at("t2", "3")}, api.Naming},
	} {
		d := New(rules(t))
		put(t, d, of("t1=a+t3=3", at("objectclass", "all"), at("t1", "a"), at("t3", "3")))
		if got := d.Replace(of("t1=a+t3=3", append([]api.Attr{at("objectclass", "all")}, c.attrs...)...)); got != c.want {
			t.Errorf("Replace with %q: %d", c.attrs, got)
		}
	}
}

func TestMost(t *testing.T) {
	d := full(t, api.MaxEnts)
	if d.Len() != api.MaxEnts {
		t.Fatalf("%d are there", d.Len())
	}
	was := state(d)
	for _, c := range []struct {
		what string
		e    api.Entry
		want int
	}{
		{"one more", domain("dc=y,dc=b"), api.Other},
		{"one more below nothing", domain("dc=y"), api.Other},
		{"no name", domain("DC=y"), api.InvalidDN},
		{"one that is there", domain("dc=x5,dc=b"), api.EntryExists},
		{"nothing above", domain("dc=y,dc=c"), api.NoObject},
		{"no such type", domain("dc=y", at("nothing", "a")), api.UndefinedType},
		{"wrong", of("dc=y", at("dc", "y")), api.ClassViolation},
		{"not named so", named("dc=y", domain("dc=z")), api.Naming},
	} {
		if got := d.Add(c.e); got != c.want {
			t.Errorf("Add of %s to a full tree: %d", c.what, got)
		}
	}
	if d.Len() != api.MaxEnts || !isState(state(d), was) {
		t.Errorf("a full tree has %d entries, or others", d.Len())
	}
	if code := d.Replace(domain("dc=x5,dc=b", at("o", "o"))); code != api.Success {
		t.Errorf("Replace in a full tree: %d", code)
	}
	c := d.Copy()
	if code := c.Add(domain("dc=y")); code != api.Other {
		t.Errorf("Add to the copy of a full tree: %d", code)
	}
	if code := d.Delete("dc=x7,dc=b"); code != api.Success {
		t.Errorf("Delete of a full tree: %d", code)
	}
	put(t, d, domain("dc=y"))
	if code := d.Add(domain("dc=x7,dc=b")); code != api.Other {
		t.Errorf("Add to a tree that is full again: %d", code)
	}
}

// TestLongest holds that names may have as many parts, and bytes, as a normal one.
func TestLongest(t *testing.T) {
	d := New(schema.Plain())
	for n := 1; n <= api.MaxRDNs; n++ {
		put(t, d, domain(chain(n)))
	}
	if code := d.Add(domain(chain(api.MaxRDNs + 1))); code != api.InvalidDN {
		t.Errorf("Add of too many parts: %d", code)
	}
	var want []string
	for n := 1; n <= api.MaxRDNs; n++ {
		want = append(want, chain(n))
	}
	if got := d.Names(); !slices.Equal(got, want) {
		t.Errorf("Names: %q", got)
	}
	if got := d.Below(chain(20)); !slices.Equal(got, want[19:]) {
		t.Errorf("Below: %q", got)
	}
	// 15 parts of 259 bytes, with commas between, and one of 197: as many bytes as may be.
	long := strings.Repeat("v", 256)
	name := ""
	for range 15 {
		name = strings.TrimSuffix("dc="+long+","+name, ",")
		put(t, d, named(name, domain("dc="+long)))
	}
	last := strings.Repeat("v", api.MaxText-len(name)-len("dc=,"))
	if code := d.Add(named("dc=v"+last+","+name, domain("dc=v"+last))); code != api.InvalidDN {
		t.Errorf("Add of too long a name: %d", code)
	}
	put(t, d, named("dc="+last+","+name, domain("dc="+last)))
	if code := d.Delete(name); code != api.NonLeaf {
		t.Errorf("Delete of what is above the longest name: %d", code)
	}
}

// orders are names, in their order.
var orders = []string{
	"dc=a",
	"ou=a,dc=a",
	"ou=z,ou=a,dc=a",
	"ou=a a,dc=a",
	"ou=a,ou=a a,dc=a",
	"ou=b,ou=a a,dc=a",
	"ou=a#,dc=a",
	"ou=a-,dc=a",
	"ou=a0,dc=a",
	"ou=a9,dc=a",
	"ou=a\\+,dc=a",
	"ou=a\\,\\,,dc=a",
	"ou=a\\,ou\\=a,dc=a",
	"ou=a\\00,dc=a",
	"ou=aa,dc=a",
	"ou=a\xc3\xa4,dc=a",
	"ou=a\xff,dc=a",
	"ou=b,dc=a",
	"dc=a b",
	"ou=a,dc=a b",
	"dc=a-",
	"dc=b",
	"ou=10,dc=b",
	"ou=9,dc=b",
	"ou=a,dc=b",
	"ou=x,ou=a,dc=b",
	"ou=a b,dc=b",
	"ou=b,dc=b",
	"ou=a",
	"dc=z,ou=a",
	"ou=a,dc=z,ou=a",
	"ou=b,dc=z,ou=a",
	"ou=a,ou=a",
}

// unescaped are values that stand in names with backslashes.
var unescaped = strings.NewReplacer(`\00`, "\x00", `\\`, `\`, `\+`, "+", `\,`, ",", `\=`, "=")

// like tells an entry of that name that may be.
func like(name string) api.Entry {
	leaf := ownPart(name)
	value := unescaped.Replace(leaf[3:])
	if strings.HasPrefix(leaf, "dc=") {
		return of(name, at("objectclass", "domain"), at("dc", value))
	}
	return unit(name, value)
}

// ownPart tells the first part of a name.
func ownPart(name string) string {
	for i := 0; i < len(name); i++ {
		if name[i] == ',' {
			return name[:i]
		}
		if name[i] == '\\' {
			i++
		}
	}
	return name
}

// aboveOf tells the name behind the first part of another one.
func aboveOf(name string) string {
	return strings.TrimPrefix(name[len(ownPart(name)):], ",")
}

// isBelow tells whether name is another one, or stands below it.
func isBelow(name, base string) bool {
	for name != base && name != "" {
		name = aboveOf(name)
	}
	return name == base
}

func TestOrder(t *testing.T) {
	for seed := range int64(20) {
		d := New(schema.Plain())
		// Each comes in behind the one above it, by chance else.
		left := slices.Clone(orders)
		r := rand.New(rand.NewSource(seed))
		r.Shuffle(len(left), func(i, j int) { left[i], left[j] = left[j], left[i] })
		for len(left) > 0 {
			left = slices.DeleteFunc(left, func(name string) bool {
				code := d.Add(like(name))
				if code != api.Success && code != api.NoObject {
					t.Fatalf("Add of %q: %d", name, code)
				}
				return code == api.Success
			})
		}
		if got := d.Names(); !slices.Equal(got, orders) {
			t.Fatalf("Names: %q", got)
		}
		if got := d.Copy().Names(); !slices.Equal(got, orders) {
			t.Fatalf("Names of a copy: %q", got)
		}
		if got := d.Below(""); !slices.Equal(got, orders) {
			t.Fatalf("Below of no name: %q", got)
		}
		for _, base := range orders {
			want := slices.DeleteFunc(slices.Clone(orders), func(name string) bool { return !isBelow(name, base) })
			if got := d.Below(base); !slices.Equal(got, want) {
				t.Fatalf("Below of %q: %q", base, got)
			}
		}
		for _, base := range []string{"dc=c", "OU=a", "ou=a ", "dc", "ou=b", "dc=b,dc=a", "ou=a,dc=a,dc=b", ",", "a,dc=a", " "} {
			if got := d.Below(base); len(got) != 0 {
				t.Fatalf("Below of %q: %q", base, got)
			}
		}
	}
}

// copying tells the tree of which a copy is made.
func copying(t *testing.T) *Tree {
	t.Helper()
	return tree(t, like("dc=b"), like("ou=b,dc=b"), like("ou=d,dc=b"), like("ou=x,ou=d,dc=b"))
}

// changes are done one behind the other to that tree.
var changes = []func(d *Tree) int{
	func(d *Tree) int { return d.Add(like("ou=a,dc=b")) },
	func(d *Tree) int { return d.Add(like("ou=c,dc=b")) },
	func(d *Tree) int { return d.Add(like("ou=e,dc=b")) },
	func(d *Tree) int { return d.Add(like("dc=a")) },
	func(d *Tree) int { return d.Add(like("ou=x,ou=b,dc=b")) },
	func(d *Tree) int { return d.Replace(unit("ou=b,dc=b", "b", "more")) },
	func(d *Tree) int { return d.Delete("ou=x,ou=b,dc=b") },
	func(d *Tree) int { return d.Delete("ou=b,dc=b") },
	func(d *Tree) int { return d.Delete("ou=x,ou=d,dc=b") },
	func(d *Tree) int { return d.Delete("ou=d,dc=b") },
	func(d *Tree) int { return d.Add(like("ou=d,dc=b")) },
}

// changed does all changes to d, and holds that other stays as it is.
func changed(t *testing.T, what string, d, other *Tree) {
	t.Helper()
	was := state(other)
	for i, change := range changes {
		if code := change(d); code != api.Success {
			t.Fatalf("change %d of %s: %d", i, what, code)
		}
		if got := state(other); other.Len() != len(was) || !isState(got, was) {
			t.Fatalf("change %d of %s changed the other one: %q", i, what, got)
		}
	}
}

func TestCopy(t *testing.T) {
	d := copying(t)
	c := d.Copy()
	if c == nil || c == d || c.Schema() != d.Schema() || c.Len() != 4 || !isState(state(c), state(d)) {
		t.Fatalf("Copy: %v", c)
	}
	changed(t, "a copy", c, d)
	changed(t, "what was copied", d, c)
	if !isState(state(c), state(d)) {
		t.Errorf("both have become other ones: %q, %q", state(c), state(d))
	}
	d = copying(t)
	c = d.Copy()
	changed(t, "what was copied, first", d, c)
	changed(t, "a copy of a copy", c.Copy(), c)
	empty := New(schema.Plain())
	c = empty.Copy()
	put(t, c, domain("dc=b"))
	if empty.Len() != 0 || c.Len() != 1 {
		t.Errorf("the copy of none: %d, %d", empty.Len(), c.Len())
	}
}

// TestMemory holds that what is handed in stays as it is and isn't kept, and that what is told is no part of the tree.
func TestMemory(t *testing.T) {
	values := append(make([]string, 0, 8), "b", "c")
	attrs := append(make([]api.Attr, 0, 8), at("OU", values...), at("objectclass", "organizationalunit"))
	e := of("ou=b", attrs...)
	was := copied(e)
	want := of("ou=b", at("objectclass", "organizationalunit"), at("ou", "b", "c"))
	calls := []struct {
		what string
		call func(d *Tree, e api.Entry) int
	}{
		{"Add", func(d *Tree, e api.Entry) int { return d.Add(e) }},
		{"Replace", func(d *Tree, e api.Entry) int {
			d.Add(unit("ou=b", "b"))
			return d.Replace(e)
		}},
	}
	for _, c := range calls {
		d := New(schema.Plain())
		in := copied(e)
		if code := c.call(d, in); code != api.Success {
			t.Errorf("%s: %d", c.what, code)
		}
		if !isEntry(in, was) {
			t.Errorf("%s changed %q", c.what, in)
		}
		spoil(in)
		if got, _ := d.Get("ou=b"); !isEntry(got, want) {
			t.Errorf("%s keeps what it is handed: %q", c.what, got)
		}
		k := d.Copy()
		got, _ := d.Get("ou=b")
		spoil(got)
		for _, x := range []*Tree{d, k} {
			if got, _ := x.Get("ou=b"); !isEntry(got, want) {
				t.Errorf("what Get tells is the tree's own: %q", got)
			}
		}
	}
	d := copying(t)
	for what, call := range map[string]func() []string{
		"Names":    d.Names,
		"Below":    func() []string { return d.Below("dc=b") },
		"Below no": func() []string { return d.Below("") },
	} {
		want := slices.Clone(call())
		got := call()
		for i := range got[:cap(got)] {
			got[:cap(got)][i] = "spoilt"
		}
		if got := call(); len(got) != 4 || !slices.Equal(got, want) {
			t.Errorf("what %s tells is the tree's own: %q", what, got)
		}
	}
}

// plain is a tree as the chapter's words have it: entries in the order in which they came.
type plain struct {
	s    *schema.Schema
	list []api.Entry
}

// place tells where the entry of a name stands, -1 of none.
func (p *plain) place(name string) int {
	return slices.IndexFunc(p.list, func(e api.Entry) bool { return e.DN == name })
}

// add tells what Add does; the names that are handed in are normal, and entries clean.
func (p *plain) add(e api.Entry) int {
	switch above := aboveOf(e.DN); {
	case p.place(e.DN) >= 0:
		return api.EntryExists
	case above != "" && p.place(above) < 0:
		return api.NoObject
	}
	if code := p.code(e); code != api.Success {
		return code
	}
	p.list = append(p.list, e)
	return api.Success
}

// replace tells what Replace does.
func (p *plain) replace(e api.Entry) int {
	i := p.place(e.DN)
	if i < 0 {
		return api.NoObject
	}
	if code := p.code(e); code != api.Success {
		return code
	}
	p.list[i] = e
	return api.Success
}

// code tells what is wrong with an entry whose own part has one pair, and whose values are as they count.
func (p *plain) code(e api.Entry) int {
	if code := p.s.Check(e); code != api.Success {
		return code
	}
	name, value, _ := strings.Cut(ownPart(e.DN), "=")
	for _, a := range e.Attrs {
		if a.Type == name && slices.Contains(a.Values, value) {
			return api.Success
		}
	}
	return api.Naming
}

// remove tells what Delete does.
func (p *plain) remove(name string) int {
	i := p.place(name)
	if i < 0 {
		return api.NoObject
	}
	for _, e := range p.list {
		if e.DN != name && isBelow(e.DN, name) {
			return api.NonLeaf
		}
	}
	p.list = slices.Delete(p.list, i, i+1)
	return api.Success
}

// ahead tells which of two names that are not one stands first.
func ahead(a, b string) bool {
	if isBelow(a, b) || isBelow(b, a) {
		return isBelow(b, a)
	}
	// What is above both, and above nothing else of one of them, tells.
	for ; !isBelow(b, aboveOf(a)); a = aboveOf(a) {
	}
	for ; aboveOf(b) != aboveOf(a); b = aboveOf(b) {
	}
	return ownPart(a) < ownPart(b)
}

// below tells what Below does.
func (p *plain) below(at string) []api.Entry {
	if at != "" && p.place(at) < 0 {
		return nil
	}
	var list []api.Entry
	for _, e := range p.list {
		if isBelow(e.DN, at) {
			list = append(list, e)
		}
	}
	slices.SortFunc(list, func(a, b api.Entry) int {
		if ahead(a.DN, b.DN) {
			return -1
		}
		return 1
	})
	return list
}

// holds tells whether d is what p says, and the one above each entry is there.
func (p *plain) holds(d *Tree, at string) bool {
	below := p.below(at)
	names := d.Below(at)
	if !slices.EqualFunc(names, below, func(name string, e api.Entry) bool { return name == e.DN }) {
		return false
	}
	for i, name := range names {
		above := aboveOf(name)
		if _, ok := d.Get(above); ok == (above == "") || name != at && above != "" && above != at && !slices.Contains(names[:i], above) {
			return false
		}
	}
	return d.Len() == len(p.list) && isState(state(d), p.below(""))
}

// some tells one of a few names, of up to four parts.
func some(r *rand.Rand) string {
	name := ""
	for range 1 + r.Intn(4) {
		part := []string{"dc=a", "dc=b", "dc=a b", "ou=a", "ou=a-"}[r.Intn(5)]
		name = strings.TrimSuffix(part+","+name, ",")
	}
	return name
}

// TestWalk does whatever comes by chance, and holds the tree against a plain one.
func TestWalk(t *testing.T) {
	told := map[int]int{}
	for seed := range int64(40) {
		r := rand.New(rand.NewSource(seed))
		d, p := New(schema.Plain()), &plain{s: schema.Plain()}
		for step := range 300 {
			name := some(r)
			e := like(name)
			if r.Intn(4) == 0 {
				e = unit(name, "a", strconv.Itoa(step))
			}
			if r.Intn(10) == 0 {
				e.Attrs = e.Attrs[:1]
			}
			e = rising(e)
			before := d.Copy()
			was := state(d)
			var got, want int
			switch r.Intn(5) {
			case 0, 1:
				got, want = d.Add(e), p.add(e)
			case 2, 3:
				got, want = d.Delete(name), p.remove(name)
			default:
				got, want = d.Replace(e), p.replace(e)
			}
			told[got]++
			if got != want {
				t.Fatalf("step %d of %d, %q: %d, not %d", step, seed, e, got, want)
			}
			if got != api.Success && !isState(state(d), was) || !isState(state(before), was) {
				t.Fatalf("step %d of %d, %q: %d changed what it may not", step, seed, e, got)
			}
			if !p.holds(d, "") || !p.holds(d, some(r)) || !p.holds(d.Copy(), aboveOf(name)) {
				t.Fatalf("step %d of %d, %q: %q", step, seed, e, state(d))
			}
		}
	}
	for _, code := range []int{api.Success, api.EntryExists, api.NoObject, api.NonLeaf, api.Naming, api.ClassViolation} {
		if told[code] < 20 {
			t.Errorf("code %d has come %d times", code, told[code])
		}
	}
}

// TestAbove holds that wherever entries come in, and go, the one above each one is there.
func TestAbove(t *testing.T) {
	d := New(schema.Plain())
	for range 3 {
		for _, name := range slices.Backward(orders) {
			d.Add(like(name))
		}
	}
	for _, name := range orders {
		d.Delete(name)
		for _, left := range d.Names() {
			if above := aboveOf(left); above != "" {
				if _, ok := d.Get(above); !ok {
					t.Fatalf("%q is gone from above %q", above, left)
				}
			}
		}
	}
}

func TestNil(t *testing.T) {
	var d *Tree
	e := domain("dc=b")
	if got, ok := d.Get("dc=b"); ok || !isEntry(got, api.Entry{}) {
		t.Errorf("Get: %q, %t", got, ok)
	}
	for _, e := range []api.Entry{e, {}, domain("DC=b")} {
		if got := d.Add(e); got != api.Other {
			t.Errorf("Add: %d", got)
		}
		if got := d.Replace(e); got != api.Other {
			t.Errorf("Replace: %d", got)
		}
		if got := d.Delete(e.DN); got != api.Other {
			t.Errorf("Delete: %d", got)
		}
	}
	if len(d.Names()) != 0 || len(d.Below("")) != 0 || len(d.Below("dc=b")) != 0 || d.Len() != 0 || d.Copy() != nil || d.Schema() != nil {
		t.Error("nil has something")
	}
}

// TestNoSchema holds that a tree without a schema stays empty.
func TestNoSchema(t *testing.T) {
	d := New(nil)
	for what, d := range map[string]*Tree{"New": d, "Copy": d.Copy(), "zero": {}, "Copy of zero": new(Tree).Copy()} {
		if d == nil {
			t.Errorf("%s: nothing is there", what)
			continue
		}
		for _, e := range []api.Entry{domain("dc=b"), {}, domain("DC=b"), domain("dc=a,dc=b"), of("dc=b", at("nothing"))} {
			if got := d.Add(e); got != api.Other {
				t.Errorf("%s: Add of %q: %d", what, e, got)
			}
			if got := d.Replace(e); got != api.Other {
				t.Errorf("%s: Replace of %q: %d", what, e, got)
			}
			if got := d.Delete(e.DN); got != api.NoObject {
				t.Errorf("%s: Delete of %q: %d", what, e, got)
			}
			if _, ok := d.Get(e.DN); ok {
				t.Errorf("%s: Get of %q", what, e)
			}
		}
		if len(d.Names()) != 0 || len(d.Below("")) != 0 || d.Len() != 0 || d.Schema() != nil {
			t.Errorf("%s has something", what)
		}
	}
}

package find

import (
	"fmt"
	"slices"
	"strconv"
	"strings"
	"testing"

	"bothy/api"
	"bothy/dit"
	"bothy/entry"
	"bothy/filter"
	"bothy/schema"
)

// at tells an attribute.
func at(name string, values ...string) api.Attr {
	return api.Attr{Type: name, Values: values}
}

// of tells an entry.
func of(name string, attrs ...api.Attr) api.Entry {
	return api.Entry{DN: name, Attrs: attrs}
}

// domain tells a domain with these attributes beside the class.
func domain(name string, more ...api.Attr) api.Entry {
	return of(name, append(more, at("objectclass", "domain"))...)
}

// unit tells a unit likewise.
func unit(name string, more ...api.Attr) api.Entry {
	return of(name, append(more, at("objectclass", "organizationalunit"))...)
}

// person tells a person likewise.
func person(name string, more ...api.Attr) api.Entry {
	return of(name, append(more, at("objectclass", "person"))...)
}

// isEntry tells whether both are the same, just as they stand.
func isEntry(a, b api.Entry) bool {
	return a.DN == b.DN && slices.EqualFunc(a.Attrs, b.Attrs, func(a, b api.Attr) bool {
		return a.Type == b.Type && slices.Equal(a.Values, b.Values)
	})
}

// isList tells whether both have the same entries in one order.
func isList(a, b []api.Entry) bool { return slices.EqualFunc(a, b, isEntry) }

// told tells the first entries of a list as they stand in a message.
func told(list []api.Entry) string {
	return fmt.Sprintf("%d entries %.600q", len(list), list)
}

// tree tells a tree of the plain schema that has these entries.
func tree(t *testing.T, list ...api.Entry) *dit.Tree {
	t.Helper()
	d := dit.New(schema.Plain())
	put(t, d, list...)
	return d
}

// put adds these entries to d.
func put(t *testing.T, d *dit.Tree, list ...api.Entry) {
	t.Helper()
	for _, e := range list {
		if code := d.Add(e); code != api.Success {
			t.Fatalf("Add of %.200q: %d", e, code)
		}
	}
}

// state tells all that d has, in its order.
func state(d *dit.Tree) []api.Entry {
	var list []api.Entry
	for _, name := range d.Names() {
		e, _ := d.Get(name)
		list = append(list, e)
	}
	return list
}

// some is the tree of most tests.
func some(t *testing.T) *dit.Tree {
	t.Helper()
	return tree(t,
		domain("dc=b", at("DC", "B"), at("description", "Top")),
		unit("ou=x,dc=b", at("ou", "X", "y")),
		person("cn=al ko,ou=x,dc=b", at("cn", "Al  Ko", "A"), at("sn", "S"), at("uid", "U"), at("uidNumber", "07"), at("userPassword", "Pw")),
		person("cn=zed,ou=x,dc=b", at("cn", "Zed"), at("sn", "s", "T"), at("member", "CN=A, dc=B"), at("serialnumber", "Ab")),
		unit("ou=m,cn=zed,ou=x,dc=b", at("ou", "m")),
		unit("ou=xx,dc=b", at("ou", "xx")),
		domain("dc=c", at("dc", "c")),
	)
}

// may tells a rule that gives everybody the right to read an attribute.
func may(below, attr string) api.Rule {
	return api.Rule{Who: "*", Below: below, Attr: attr, Right: api.Read, Allow: true}
}

// mayNot tells a rule that takes that right.
func mayNot(below, attr string) api.Rule {
	return api.Rule{Who: "*", Below: below, Attr: attr, Right: api.Read}
}

// by tells r for this one alone.
func by(who string, r api.Rule) api.Rule {
	r.Who = who
	return r
}

// all are rules by which everybody may read everything.
func all() []api.Rule { return []api.Rule{may("", "*")} }

// has tells a filter of what has an attribute.
func has(attr string) api.Filter { return api.Filter{Kind: api.FilterPresent, Attr: attr} }

// is tells a filter of what has a value.
func is(attr, value string) api.Filter {
	return api.Filter{Kind: api.FilterEqual, Attr: attr, Value: value}
}

// every tells a search of all that is seen in a scope, and of no attribute but dc and ou.
func every(name string, scope int) api.Msg {
	return api.Msg{DN: name, Scope: scope, Filter: filter.Or(has("objectclass"), filter.Not(has("objectclass"))), Attrs: []string{"dc", "ou"}}
}

// asking tells m with this filter.
func asking(f api.Filter, m api.Msg) api.Msg {
	m.Filter = f
	return m
}

// upTo tells m with this limit.
func upTo(limit int, m api.Msg) api.Msg {
	m.Limit = limit
	return m
}

// mostParts is how many parts a name may have.
const mostParts = 32

// chain tells a name of n parts, each of them dc=a.
func chain(n int) string {
	return strings.TrimSuffix(strings.Repeat("dc=a,", n), ",")
}

// long is a name of more than 4096 bytes.
var long = "cn=" + strings.Repeat("a", 4096)

// scopes are names, and of which scopes the first one is, at the other one.
var scopes = []struct {
	at, base       string
	base0, one, up bool
}{
	{"dc=b", "dc=b", true, false, true},
	{"dc=a,dc=b", "dc=b", false, true, true},
	{"dc=z,dc=a,dc=b", "dc=b", false, false, true},
	{"dc=b", "dc=a,dc=b", false, false, false},
	{"dc=b", "", false, true, true},
	{"dc=a,dc=b", "", false, false, true},
	{"", "", true, false, true},
	{"", "dc=b", false, false, false},
	{"dc=c", "dc=b", false, false, false},
	{"dc=a,dc=c", "dc=b", false, false, false},
	{"dc=ab", "dc=b", false, false, false},
	{"dc=a,xdc=b", "dc=b", false, false, false},
	{`dc=a\,dc\=b`, "dc=b", false, false, false},
	{`cn=x\,y,dc=b`, "dc=b", false, true, true},
	{`cn=x\\,dc=b`, "dc=b", false, true, true},
	{"cn=a+sn=b,dc=b", "dc=b", false, true, true},
	{"dc=a,cn=a+sn=b", "cn=a+sn=b", false, true, true},
	{"cn=a+sn=b", "sn=b", false, false, false},
	{chain(mostParts), chain(mostParts), true, false, true},
	{chain(mostParts), chain(mostParts - 1), false, true, true},
	{chain(mostParts), "dc=a", false, false, true},
	{chain(mostParts + 1), chain(mostParts + 1), false, false, false},
	{chain(mostParts + 1), chain(mostParts), false, false, false},
	{"DC=b", "DC=b", false, false, false},
	{"DC=b", "dc=b", false, false, false},
	{"dc=b", "DC=b", false, false, false},
	{"DC=a,dc=b", "dc=b", false, false, false},
	{"dc=a,DC=b", "DC=b", false, false, false},
	{"dc=a, dc=b", "dc=b", false, false, false},
	{"dc=a,dc=b", " dc=b", false, false, false},
	{"dc", "dc", false, false, false},
	{"dc", "", false, false, false},
	{"dc=a,", "", false, false, false},
	{"dc=a,", "dc=a", false, false, false},
	{"dc=a,dc", "dc", false, false, false},
	{",", ",", false, false, false},
	{" ", " ", false, false, false},
	{"\xff", "\xff", false, false, false},
	{"cn=\xff", "cn=\xff", true, false, true},
	{long, long, false, false, false},
	{long, "", false, false, false},
}

func TestIn(t *testing.T) {
	for _, c := range scopes {
		for scope, want := range map[int]bool{
			api.ScopeBase: c.base0, api.ScopeOne: c.one, api.ScopeSub: c.up,
			-1: false, 3: false, 4: false, 1 << 40: false, -1 << 63: false,
		} {
			if got := In(c.at, c.base, scope); got != want {
				t.Errorf("In(%.40q, %.40q, %d): %v", c.at, c.base, scope, got)
			}
		}
	}
}

// found are searches of some, by whom, and the names of what they find.
var found = []struct {
	what  string
	rules []api.Rule
	who   string
	m     api.Msg
	want  []string
}{
	{"the base", all(), "", every("dc=b", api.ScopeBase), []string{"dc=b"}},
	{"the base, a leaf", all(), "", every("cn=al ko,ou=x,dc=b", api.ScopeBase), []string{"cn=al ko,ou=x,dc=b"}},
	{"one level", all(), "", every("dc=b", api.ScopeOne), []string{"ou=x,dc=b", "ou=xx,dc=b"}},
	{"one level of a leaf", all(), "", every("ou=xx,dc=b", api.ScopeOne), nil},
	{"all below", all(), "", every("dc=b", api.ScopeSub), []string{"dc=b", "ou=x,dc=b", "cn=al ko,ou=x,dc=b", "cn=zed,ou=x,dc=b", "ou=m,cn=zed,ou=x,dc=b", "ou=xx,dc=b"}},
	{"all below, further down", all(), "", every("cn=zed,ou=x,dc=b", api.ScopeSub), []string{"cn=zed,ou=x,dc=b", "ou=m,cn=zed,ou=x,dc=b"}},
	{"a name in other letters, with blanks", all(), "", every(" CN = AL   ko , OU=X,dc =b", api.ScopeSub), []string{"cn=al ko,ou=x,dc=b"}},
	{"the base of the root", all(), "", every("", api.ScopeBase), nil},
	{"one level of the root", all(), "", every("", api.ScopeOne), []string{"dc=b", "dc=c"}},
	{"all below the root", all(), "", every("", api.ScopeSub), []string{"dc=b", "ou=x,dc=b", "cn=al ko,ou=x,dc=b", "cn=zed,ou=x,dc=b", "ou=m,cn=zed,ou=x,dc=b", "ou=xx,dc=b", "dc=c"}},
	{"no scope", all(), "", every("dc=b", 3), nil},
	{"no scope, below nought", all(), "", every("", -1), nil},
	{"the root without rules", nil, "", every("", api.ScopeSub), nil},
	{"the root, by rules that may not be", []api.Rule{may("", "*"), may("DC=b", "*")}, "", every("", api.ScopeSub), nil},
	{"a value", all(), "", asking(is("SN", " S "), every("", api.ScopeSub)), []string{"cn=al ko,ou=x,dc=b", "cn=zed,ou=x,dc=b"}},
	{"a value that none has", all(), "", asking(is("sn", "q"), every("", api.ScopeSub)), nil},
	{"not a value: also what has no such attribute", all(), "", asking(filter.Not(is("sn", "t")), every("ou=x,dc=b", api.ScopeSub)), []string{"ou=x,dc=b", "cn=al ko,ou=x,dc=b", "ou=m,cn=zed,ou=x,dc=b"}},
	{"no type: neither so nor not", all(), "", asking(filter.Not(is("zz", "t")), every("", api.ScopeSub)), nil},
	{"no type, or one", all(), "", asking(filter.Or(has("zz"), has("dc")), every("", api.ScopeSub)), []string{"dc=b", "dc=c"}},
	{"no value: neither so nor not", all(), "", asking(filter.Not(is("uidnumber", "x")), every("", api.ScopeSub)), nil},
	{"and of none", all(), "", asking(filter.And(), every("dc=c", api.ScopeSub)), []string{"dc=c"}},
	{"or of none", all(), "", asking(filter.Or(), every("dc=c", api.ScopeSub)), nil},
	{"the zero filter is and of none", all(), "", asking(api.Filter{}, every("dc=c", api.ScopeBase)), []string{"dc=c"}},
	{"a number", all(), "", asking(is("uidnumber", "7"), every("", api.ScopeSub)), []string{"cn=al ko,ou=x,dc=b"}},
	{"parts of a text", all(), "", asking(api.Filter{Kind: api.FilterSubs, Attr: "cn", Subs: api.Subs{Tail: "D"}}, every("", api.ScopeSub)), []string{"cn=zed,ou=x,dc=b"}},
	{"what is below one that isn't seen", []api.Rule{mayNot("cn=zed,ou=x,dc=b", "entry"), may("ou=m,cn=zed,ou=x,dc=b", "*"), may("", "*")}, "", every("ou=x,dc=b", api.ScopeSub), []string{"ou=x,dc=b", "cn=al ko,ou=x,dc=b"}},
	{"what is seen below one that isn't", []api.Rule{may("ou=m,cn=zed,ou=x,dc=b", "*"), mayNot("cn=zed,ou=x,dc=b", "entry"), may("", "*")}, "", every("ou=x,dc=b", api.ScopeSub), []string{"ou=x,dc=b", "cn=al ko,ou=x,dc=b", "ou=m,cn=zed,ou=x,dc=b"}},
	{"what is seen at a root that none sees", []api.Rule{may("ou=m,cn=zed,ou=x,dc=b", "*")}, "", every("", api.ScopeSub), []string{"ou=m,cn=zed,ou=x,dc=b"}},
	{"what is seen of one level", []api.Rule{mayNot("ou=x,dc=b", "entry"), may("", "*")}, "", every("dc=b", api.ScopeOne), []string{"ou=xx,dc=b"}},
	{"what is seen, and nothing of it", []api.Rule{may("", "entry")}, "", every("dc=c", api.ScopeSub), []string{"dc=c"}},
	{"what is seen, and nothing of it: no value is there", []api.Rule{may("", "entry")}, "", asking(filter.Not(has("dc")), every("", api.ScopeOne)), []string{"dc=b", "dc=c"}},
	{"what may not be read is not there", []api.Rule{mayNot("", "sn"), may("", "*")}, "", asking(has("sn"), every("", api.ScopeSub)), nil},
	{"what may not be read is not there, elsewhere it is", []api.Rule{mayNot("cn=zed,ou=x,dc=b", "SN"), may("", "*")}, "", asking(has("sn"), every("", api.ScopeSub)), []string{"cn=al ko,ou=x,dc=b"}},
	{"what may be read, of nothing that is seen", []api.Rule{may("", "dc"), may("", "objectclass")}, "", every("", api.ScopeSub), nil},
	{"somebody", []api.Rule{by("cn=x", may("", "*"))}, "cn=x", every("dc=c", api.ScopeBase), []string{"dc=c"}},
	{"somebody else", []api.Rule{by("cn=x", may("dc=c", "*"))}, "cn=y", every("", api.ScopeSub), nil},
	{"somebody, by the first rule", []api.Rule{by("cn=x", mayNot("dc=b", "entry")), may("", "*")}, "cn=x", every("", api.ScopeOne), []string{"dc=c"}},
	{"somebody else, by the second rule", []api.Rule{by("cn=x", mayNot("dc=b", "entry")), may("", "*")}, "", every("", api.ScopeOne), []string{"dc=b", "dc=c"}},
	{"nobody has a rule", []api.Rule{by("", may("", "*"))}, "", every("dc=c", api.ScopeBase), []string{"dc=c"}},
	{"who writes doesn't see", []api.Rule{{Who: "*", Attr: "*", Right: api.Write, Allow: true}}, "", every("", api.ScopeSub), nil},
}

// namesOf tells the names of a list.
func namesOf(list []api.Entry) []string {
	var names []string
	for _, e := range list {
		names = append(names, e.DN)
	}
	return names
}

func TestFound(t *testing.T) {
	d := some(t)
	was := state(d)
	for _, c := range found {
		for _, limit := range []int{0, -1, -1 << 63, len(c.want), len(c.want) + 1, 1<<63 - 1} {
			got, code := List(d, schema.Plain(), c.rules, c.who, upTo(limit, c.m))
			if code != api.Success || !slices.Equal(namesOf(got), c.want) {
				t.Errorf("%s, at most %d: %q, %d, not %q", c.what, limit, namesOf(got), code, c.want)
			}
		}
		for limit := 1; limit < len(c.want); limit++ {
			got, code := List(d, schema.Plain(), c.rules, c.who, upTo(limit, c.m))
			if code != api.SizeLimit || !slices.Equal(namesOf(got), c.want[:limit]) {
				t.Errorf("%s, at most %d: %q, %d, not %q", c.what, limit, namesOf(got), code, c.want[:limit])
			}
		}
	}
	if !isList(state(d), was) {
		t.Errorf("the tree is another one")
	}
}

// TestLimit holds that what is in the scope, but not found, doesn't count.
func TestLimit(t *testing.T) {
	d := some(t)
	l := []api.Rule{mayNot("ou=xx,dc=b", "entry"), may("", "*")}
	for _, c := range []struct {
		what string
		m    api.Msg
		code int
		want []string
	}{
		{"unmet ones ahead", upTo(1, asking(is("ou", "m"), every("dc=b", api.ScopeSub))), api.Success, []string{"ou=m,cn=zed,ou=x,dc=b"}},
		{"unmet ones behind", upTo(1, asking(is("dc", "b"), every("dc=b", api.ScopeSub))), api.Success, []string{"dc=b"}},
		{"unseen ones behind", upTo(1, every("dc=b", api.ScopeOne)), api.Success, []string{"ou=x,dc=b"}},
		{"ones out of the scope behind", upTo(1, every("dc=b", api.ScopeBase)), api.Success, []string{"dc=b"}},
		{"unmet ones between", upTo(1, asking(has("dc"), every("", api.ScopeSub))), api.SizeLimit, []string{"dc=b"}},
		{"unmet ones between, and none behind", upTo(2, asking(has("dc"), every("", api.ScopeSub))), api.Success, []string{"dc=b", "dc=c"}},
	} {
		got, code := List(d, schema.Plain(), l, "", c.m)
		if code != c.code || !slices.Equal(namesOf(got), c.want) {
			t.Errorf("%s: %q, %d, not %q, %d", c.what, namesOf(got), code, c.want, c.code)
		}
	}
}

// TestSelected holds which attributes of what is found are told.
func TestSelected(t *testing.T) {
	d := some(t)
	name := "cn=al ko,ou=x,dc=b"
	whole := person(name, at("cn", "Al  Ko", "A"), at("sn", "S"), at("uid", "U"), at("uidNumber", "07"), at("userPassword", "Pw"))
	l := []api.Rule{mayNot("", "userPassword"), by("cn=x", mayNot(name, "*")), may("", "*")}
	hidden := []api.Rule{mayNot("", "CN"), may("", "*")}
	entryOnly := []api.Rule{by("cn=x", may("", "entry")), may("", "*")}
	for _, c := range []struct {
		what  string
		rules []api.Rule
		attrs []string
		types bool
		want  []api.Attr
	}{
		{"all", all(), nil, false, whole.Attrs},
		{"all, of an empty list", all(), []string{}, false, whole.Attrs},
		{"all, of a star", all(), []string{"zz", "*", "cn"}, false, whole.Attrs},
		{"all that may be read", l, nil, false, []api.Attr{at("cn", "Al  Ko", "A"), at("objectclass", "person"), at("sn", "S"), at("uid", "U"), at("uidnumber", "07")}},
		{"what may not be read isn't told if asked for", l, []string{"userPassword", "SN"}, false, []api.Attr{at("sn", "S")}},
		{"what may not be read isn't told without values either", l, []string{"userPassword"}, true, nil},
		{"two, in other letters and another order", all(), []string{"SN", "Cn", "sn"}, false, []api.Attr{at("cn", "Al  Ko", "A"), at("sn", "S")}},
		{"what isn't there", all(), []string{"ou", "zz", ""}, false, nil},
		{"without values", all(), []string{"CN", "uidnumber"}, true, []api.Attr{at("cn"), at("uidnumber")}},
		{"all without values", l, nil, true, []api.Attr{at("cn"), at("objectclass"), at("sn"), at("uid"), at("uidnumber")}},
		{"what tells the name may be hidden", hidden, []string{"cn", "sn"}, false, []api.Attr{at("sn", "S")}},
		{"somebody else's rule", entryOnly, []string{"cn"}, false, []api.Attr{at("cn", "Al  Ko", "A")}},
		{"what is called entry is no attribute", []api.Rule{may("", "entry")}, nil, false, nil},
	} {
		want := entry.Clean(of(name, c.want...))
		if c.types {
			want.Attrs = c.want
		}
		// Something may be asked for that is not told.
		for _, f := range []api.Filter{{}, filter.Not(has("o"))} {
			m := api.Msg{DN: name, Filter: f, Attrs: c.attrs, Types: c.types}
			got, code := List(d, schema.Plain(), c.rules, "", m)
			if code != api.Success || !isList(got, []api.Entry{want}) {
				t.Errorf("%s: %s, %d, not %.400q", c.what, told(got), code, want)
			}
		}
	}
	got, code := List(d, schema.Plain(), l, "", api.Msg{DN: name, Filter: is("sn", "s"), Attrs: []string{"uid"}})
	if code != api.Success || !isList(got, []api.Entry{of(name, at("uid", "U"))}) {
		t.Errorf("asked by sn, told uid: %s, %d", told(got), code)
	}
}

// refusals are searches of some that may not be, and what is told of each.
var refusals = []struct {
	what  string
	rules []api.Rule
	m     api.Msg
	want  int
}{
	{"no name", all(), every("dc", api.ScopeSub), api.InvalidDN},
	{"a part of none", all(), every("dc=a,,dc=b", api.ScopeSub), api.InvalidDN},
	{"a blank", all(), every(" ", api.ScopeSub), api.InvalidDN},
	{"a value that folds to nothing", all(), every(`dc=\ `, api.ScopeSub), api.InvalidDN},
	{"a name of 33 parts", all(), every(chain(mostParts+1), api.ScopeSub), api.InvalidDN},
	{"a name that is too long", all(), every(long, api.ScopeSub), api.InvalidDN},
	{"no name, no rules", nil, every("dc", api.ScopeSub), api.InvalidDN},
	{"no name, no filter", all(), asking(has(""), every("dc", api.ScopeSub)), api.InvalidDN},
	{"nothing there", all(), every("dc=z", api.ScopeSub), api.NoObject},
	{"nothing there below what is", all(), every("dc=z,dc=b", api.ScopeBase), api.NoObject},
	{"nothing there, of 32 parts", all(), every(chain(mostParts), api.ScopeBase), api.NoObject},
	{"nothing there, no filter", all(), asking(has(""), every("dc=z", api.ScopeSub)), api.NoObject},
	{"nothing there, no scope", all(), every("dc=z", 7), api.NoObject},
	{"no rules", nil, every("dc=b", api.ScopeSub), api.NoObject},
	{"no rules, no filter", nil, asking(has(""), every("dc=b", api.ScopeSub)), api.NoObject},
	{"no rules, no scope", nil, every("dc=b", 7), api.NoObject},
	{"a rule that may not be", []api.Rule{may("", "*"), may("DC=b", "*")}, every("dc=b", api.ScopeSub), api.NoObject},
	{"not seen, but what is below it", []api.Rule{may("ou=x,dc=b", "*")}, every("dc=b", api.ScopeSub), api.NoObject},
	{"not seen, but each attribute", []api.Rule{mayNot("dc=b", "entry"), may("", "*")}, every("dc=b", api.ScopeBase), api.NoObject},
	{"seen by another one", []api.Rule{by("cn=x", may("", "*"))}, every("dc=b", api.ScopeBase), api.NoObject},
	{"seen by who writes", []api.Rule{{Who: "*", Attr: "*", Right: api.Write, Allow: true}}, every("dc=b", api.ScopeBase), api.NoObject},
	{"no filter", all(), asking(has(""), every("dc=b", api.ScopeSub)), api.ProtocolError},
	{"no filter at the root", nil, asking(has(""), every("", api.ScopeSub)), api.ProtocolError},
	{"no filter at the root, no scope", nil, asking(api.Filter{Kind: 9}, every("", 7)), api.ProtocolError},
	{"no kind of filters", all(), asking(api.Filter{Kind: -1}, every("dc=b", api.ScopeSub)), api.ProtocolError},
	{"not, of none", all(), asking(api.Filter{Kind: api.FilterNot}, every("dc=b", api.ScopeSub)), api.ProtocolError},
	{"parts of a text, of none", all(), asking(api.Filter{Kind: api.FilterSubs, Attr: "cn"}, every("dc=b", api.ScopeSub)), api.ProtocolError},
	{"a value that is too long", all(), asking(is("cn", strings.Repeat("a", 1025)), every("dc=b", api.ScopeSub)), api.ProtocolError},
	{"an attribute that is too long", all(), asking(has(strings.Repeat("a", 65)), every("dc=b", api.ScopeSub)), api.ProtocolError},
	{"17 levels", all(), asking(levels(17), every("dc=b", api.ScopeSub)), api.ProtocolError},
	{"no filter, of one that finds", all(), asking(filter.Or(filter.And(), has("")), every("dc=b", api.ScopeSub)), api.ProtocolError},
}

// levels tells a filter of n levels, each of which but the last one is a not.
func levels(n int) api.Filter {
	f := has("dc")
	for range n - 1 {
		f = filter.Not(f)
	}
	return f
}

func TestRefusals(t *testing.T) {
	d := some(t)
	for _, c := range refusals {
		for limit := range 2 {
			if got, code := List(d, schema.Plain(), c.rules, "", upTo(limit, c.m)); code != c.want || len(got) != 0 {
				t.Errorf("%s: %s, %d, not %d", c.what, told(got), code, c.want)
			}
		}
	}
	if got, code := List(d, schema.Plain(), all(), "", asking(levels(16), every("dc=b", api.ScopeSub))); code != api.Success || len(got) == 0 {
		t.Errorf("16 levels: %s, %d", told(got), code)
	}
}

// value tells a message that asks whether an entry has a value.
func value(name, attr, s string) api.Msg { return api.Msg{DN: name, Attr: attr, Value: s} }

const (
	ko  = "cn=al ko,ou=x,dc=b"
	zed = "cn=zed,ou=x,dc=b"
)

// compared are questions of some, by whom, and the code of each.
var compared = []struct {
	what  string
	rules []api.Rule
	who   string
	m     api.Msg
	want  int
}{
	{"the value", all(), "", value("dc=b", "dc", "B"), api.CompareTrue},
	{"the value, in other letters", all(), "", value(" DC = B ", "DC", " b "), api.CompareTrue},
	{"the last one of two", all(), "", value(ko, "cn", "a"), api.CompareTrue},
	{"another value", all(), "", value(ko, "cn", "b"), api.CompareFalse},
	{"a part of it", all(), "", value(ko, "cn", "al"), api.CompareFalse},
	{"a class", all(), "", value(ko, "objectClass", "PERSON"), api.CompareTrue},
	{"another class", all(), "", value(ko, "objectClass", "top"), api.CompareFalse},
	{"a number", all(), "", value(ko, "uidnumber", "7"), api.CompareTrue},
	{"another number", all(), "", value(ko, "uidnumber", "-7"), api.CompareFalse},
	{"no number", all(), "", value(ko, "uidnumber", "x"), api.InvalidSyntax},
	{"bytes", all(), "", value(ko, "userpassword", "Pw"), api.CompareTrue},
	{"other bytes", all(), "", value(ko, "userpassword", "pw"), api.CompareFalse},
	{"no bytes", all(), "", value(ko, "userpassword", ""), api.CompareFalse},
	{"too many bytes", all(), "", value(ko, "userpassword", strings.Repeat("a", 4097)), api.InvalidSyntax},
	{"many bytes", all(), "", value(ko, "userpassword", strings.Repeat("a", 4096)), api.CompareFalse},
	{"letters as they stand", all(), "", value(zed, "serialnumber", " Ab "), api.CompareTrue},
	{"other letters", all(), "", value(zed, "serialnumber", "ab"), api.CompareFalse},
	{"a name", all(), "", value(zed, "member", "cn = A,dc=b"), api.CompareTrue},
	{"another name", all(), "", value(zed, "member", "cn=a"), api.CompareFalse},
	{"no name", all(), "", value(zed, "member", "cn"), api.InvalidSyntax},
	{"nothing", all(), "", value(ko, "cn", ""), api.InvalidSyntax},
	{"blanks", all(), "", value(ko, "cn", "  "), api.InvalidSyntax},
	{"more than a filter's value may have", all(), "", value(ko, "cn", strings.Repeat("a", 1025)), api.CompareFalse},
	{"no entry's name", all(), "", value("dc", "dc", "b"), api.InvalidDN},
	{"no entry's name, no rules, no type", nil, "", value("dc", "zz", "b"), api.InvalidDN},
	{"a name that is too long", all(), "", value(long, "cn", "a"), api.InvalidDN},
	{"a name of 33 parts", all(), "", value(chain(mostParts+1), "cn", "a"), api.InvalidDN},
	{"the root", all(), "", value("", "dc", "b"), api.NoObject},
	{"the root, no type", all(), "", value("", "zz", "b"), api.NoObject},
	{"nothing there", all(), "", value("dc=z", "dc", "b"), api.NoObject},
	{"nothing there, no type", all(), "", value("dc=z", "zz", "b"), api.NoObject},
	{"no rules", nil, "", value("dc=b", "dc", "b"), api.NoObject},
	{"no rules, no type", nil, "", value("dc=b", "zz", "b"), api.NoObject},
	{"a rule that may not be", []api.Rule{may("", "*"), may("DC=b", "*")}, "", value("dc=b", "dc", "b"), api.NoObject},
	{"not seen, but the attribute", []api.Rule{may("", "dc")}, "", value("dc=b", "dc", "b"), api.NoObject},
	{"seen by another one", []api.Rule{by("cn=x", may("", "*"))}, "cn=y", value("dc=b", "dc", "b"), api.NoObject},
	{"who writes doesn't see", []api.Rule{{Who: "*", Attr: "*", Right: api.Write, Allow: true}}, "", value("dc=b", "dc", "b"), api.NoObject},
	{"seen by this one", []api.Rule{by("cn=x", may("", "*"))}, "cn=x", value("dc=b", "dc", "b"), api.CompareTrue},
	{"no type", all(), "", value("dc=b", "zz", "b"), api.UndefinedType},
	{"no type's name", all(), "", value("dc=b", "", "b"), api.UndefinedType},
	{"a star is no type", all(), "", value("dc=b", "*", "b"), api.UndefinedType},
	{"entry is no type", all(), "", value("dc=b", "entry", "b"), api.UndefinedType},
	{"no type, that may not be read", []api.Rule{may("", "entry")}, "", value("dc=b", "zz", "b"), api.UndefinedType},
	{"it may not be read", []api.Rule{may("", "entry")}, "", value("dc=b", "dc", "b"), api.NoAttribute},
	{"it may not be read, in other letters", []api.Rule{mayNot("dc=b", "Dc"), may("", "*")}, "", value("dc=b", "dC", "b"), api.NoAttribute},
	{"it may not be read, just written", []api.Rule{may("", "entry"), {Who: "*", Attr: "dc", Right: api.Write, Allow: true}}, "", value("dc=b", "dc", "b"), api.NoAttribute},
	{"it may not be read, nor is that a value", []api.Rule{may("", "entry")}, "", value(ko, "uidnumber", "x"), api.NoAttribute},
	{"it may not be read by this one", []api.Rule{by("cn=x", mayNot("", "dc")), may("", "*")}, "cn=x", value("dc=b", "dc", "b"), api.NoAttribute},
	{"it may be read by another one", []api.Rule{by("cn=x", mayNot("", "dc")), may("", "*")}, "cn=y", value("dc=b", "dc", "b"), api.CompareTrue},
	{"it may not be read elsewhere", []api.Rule{mayNot("dc=c", "dc"), may("", "*")}, "", value("dc=b", "dc", "b"), api.CompareTrue},
	{"another one may not be read", []api.Rule{mayNot("", "cn"), may("", "*")}, "", value("dc=b", "dc", "b"), api.CompareTrue},
	{"it and the entry alone", []api.Rule{may("dc=b", "entry"), may("dc=b", "dc")}, "", value("dc=b", "dc", "b"), api.CompareTrue},
	{"it isn't there", all(), "", value("dc=b", "cn", "b"), api.NoAttribute},
	{"it isn't there, nor is that a value", all(), "", value("dc=b", "uidnumber", "x"), api.NoAttribute},
}

func TestCompare(t *testing.T) {
	d := some(t)
	was := state(d)
	for _, c := range compared {
		// What a compare doesn't have is not looked at.
		full := c.m
		full.ID, full.Kind, full.Scope, full.Limit, full.Types = -1, api.MsgSearch, 9, 1, true
		full.Filter, full.Attrs, full.Entry = api.Filter{Kind: 99}, []string{"zz"}, of("x", at("y", "z"))
		for _, m := range []api.Msg{c.m, full} {
			if got := Compare(d, schema.Plain(), c.rules, c.who, m); got != c.want {
				t.Errorf("%s: %d, not %d", c.what, got, c.want)
			}
		}
	}
	if !isList(state(d), was) {
		t.Errorf("the tree is another one")
	}
}

// TestOtherFields holds that a search doesn't look at what it hasn't.
func TestOtherFields(t *testing.T) {
	d := some(t)
	m := every("dc=b", api.ScopeSub)
	want, _ := List(d, schema.Plain(), all(), "", m)
	m.ID, m.Kind, m.Password, m.Entry, m.Mods = -1, api.MsgDelete, "p", of("x", at("y", "z")), []api.Mod{{Op: 7}}
	m.RDN, m.DropOld, m.Above, m.Move, m.Attr, m.Value, m.Target = "x", true, "y", true, "cn", "v", 5
	m.Result, m.Controls = api.Result{Code: 1}, []api.Control{{OID: "1", Critical: true}}
	got, code := List(d, schema.Plain(), all(), "", m)
	if code != api.Success || !isList(got, want) || len(got) != 6 {
		t.Errorf("%s, %d, not %s", told(got), code, told(want))
	}
}

// TestSchema holds that filters and values are held against the schema that is handed in, not that of the tree.
func TestSchema(t *testing.T) {
	s, err := schema.New([]api.Type{{Name: "ObjectClass", Rule: api.RuleExact}, {Name: "DC", Rule: api.RuleExact}, {Name: "entry", Rule: api.RuleIgnore}}, nil)
	if err != api.OK {
		t.Fatalf("New: %d", err)
	}
	d := some(t)
	for _, c := range []struct {
		f    api.Filter
		want []string
	}{
		{is("dc", "B"), []string{"dc=b"}}, {is("dc", "b"), nil}, {filter.Not(has("ou")), nil}, {filter.Not(has("entry")), []string{"dc=b", "dc=c"}},
	} {
		got, code := List(d, s, all(), "", asking(c.f, every("", api.ScopeOne)))
		if code != api.Success || !slices.Equal(namesOf(got), c.want) {
			t.Errorf("%+v: %q, %d, not %q", c.f, namesOf(got), code, c.want)
		}
	}
	for _, c := range []struct {
		attr, value string
		want        int
	}{
		{"dc", "B", api.CompareTrue}, {"dc", "b", api.CompareFalse}, {"description", "top", api.UndefinedType}, {"entry", "x", api.NoAttribute},
	} {
		if got := Compare(d, s, all(), "", value("dc=b", c.attr, c.value)); got != c.want {
			t.Errorf("%s %s: %d, not %d", c.attr, c.value, got, c.want)
		}
	}
}

func TestNil(t *testing.T) {
	m := every("", api.ScopeSub)
	for _, c := range []struct {
		what string
		tree *dit.Tree
		s    *schema.Schema
	}{
		{"no tree", nil, schema.Plain()}, {"no schema", some(t), nil}, {"neither", nil, nil},
	} {
		for _, m := range []api.Msg{m, every("dc=b", api.ScopeSub), every("dc", api.ScopeSub), asking(has(""), m), {}} {
			if got, code := List(c.tree, c.s, all(), "", m); code != api.Other || len(got) != 0 {
				t.Errorf("%s: List: %s, %d", c.what, told(got), code)
			}
			if code := Compare(c.tree, c.s, all(), "", m); code != api.Other {
				t.Errorf("%s: Compare: %d", c.what, code)
			}
		}
	}
	for _, d := range []*dit.Tree{{}, dit.New(nil), dit.New(schema.Plain())} {
		if got, code := List(d, schema.Plain(), all(), "", m); code != api.Success || len(got) != 0 {
			t.Errorf("an empty tree: List: %s, %d", told(got), code)
		}
		if got, code := List(d, &schema.Schema{}, all(), "", every("dc=b", api.ScopeBase)); code != api.NoObject || len(got) != 0 {
			t.Errorf("an empty tree: List: %s, %d", told(got), code)
		}
		if code := Compare(d, &schema.Schema{}, all(), "", value("dc=b", "dc", "b")); code != api.NoObject {
			t.Errorf("an empty tree: Compare: %d", code)
		}
	}
	if code := Compare(some(t), &schema.Schema{}, all(), "", value("dc=b", "dc", "b")); code != api.UndefinedType {
		t.Errorf("an empty schema: Compare: %d", code)
	}
	if got, code := List(some(t), &schema.Schema{}, all(), "", asking(has("dc"), m)); code != api.Success || len(got) != 0 {
		t.Errorf("an empty schema: List: %s, %d", told(got), code)
	}
	if got, code := List(some(t), schema.Plain(), nil, "", api.Msg{}); code != api.Success || len(got) != 0 {
		t.Errorf("the zero message: List: %s, %d", told(got), code)
	}
	if code := Compare(some(t), schema.Plain(), nil, "", api.Msg{}); code != api.NoObject {
		t.Errorf("the zero message: Compare: %d", code)
	}
}

// TestMemory holds that what is handed in stays as it is, and that what is told is memory of its own.
func TestMemory(t *testing.T) {
	d := some(t)
	was := state(d)
	l := []api.Rule{mayNot("ou=xx,dc=b", "entry"), may("", "*")}
	m := asking(filter.Or(has("OU"), is("DC", "B")), every("DC = b", api.ScopeSub))
	m.Attrs = []string{"OU", "Dc", "DESCRIPTION"}
	rules, attrs := slices.Clone(l), slices.Clone(m.Attrs)
	list := slices.Clone(m.Filter.List)
	first, _ := List(d, schema.Plain(), l, "", m)
	if len(first) != 3 {
		t.Fatalf("%s", told(first))
	}
	Compare(d, schema.Plain(), l, "", m)
	if !slices.Equal(l, rules) || !slices.Equal(m.Attrs, attrs) || !filter.Same(filter.Or(list...), m.Filter) {
		t.Errorf("what was handed in is another one: %v %q %v", l, m.Attrs, m.Filter)
	}
	second, _ := List(d, schema.Plain(), l, "", m)
	for _, e := range second {
		for i, a := range e.Attrs {
			for j := range a.Values {
				a.Values[j] = "spoilt"
			}
			_ = append(a.Values, "spoilt")
			e.Attrs[i] = at("spoilt", a.Values...)
		}
	}
	third, _ := List(d, schema.Plain(), l, "", m)
	if !isList(third, first) || !isList(state(d), was) {
		t.Errorf("what was told is kept: %s, not %s", told(third), told(first))
	}
}

// TestGreat holds a full tree of entries, by as many rules as there may be.
func TestGreat(t *testing.T) {
	d := tree(t, domain("dc=b", at("dc", "b")))
	for i := 1; i < api.MaxEnts; i++ {
		n := strconv.Itoa(i)
		put(t, d, unit("ou="+n+",dc=b", at("ou", n)))
	}
	var l []api.Rule
	for i := range api.MaxRules - 1 {
		l = append(l, mayNot("ou="+strconv.Itoa(2*i+1)+",dc=b", "entry"))
	}
	l = append(l, may("", "*"))
	got, code := List(d, schema.Plain(), l, "", every("dc=b", api.ScopeOne))
	if code != api.Success || len(got) != api.MaxEnts-1-(api.MaxRules-1) {
		t.Errorf("%d entries, %d", len(got), code)
	}
	for _, e := range got {
		n, _ := strconv.Atoi(entry.Get(e, "ou")[0])
		if n < 2*(api.MaxRules-1) && n%2 == 1 {
			t.Errorf("%q is told", e.DN)
		}
	}
	got, code = List(d, schema.Plain(), append(l, may("", "*")), "", every("", api.ScopeSub))
	if code != api.Success || len(got) != 0 {
		t.Errorf("one rule too many: %d entries, %d", len(got), code)
	}
}

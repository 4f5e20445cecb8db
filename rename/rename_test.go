package rename

import (
	"fmt"
	"slices"
	"strconv"
	"strings"
	"testing"

	"bothy/api"
	"bothy/dit"
	"bothy/dn"
	"bothy/entry"
	"bothy/schema"
)

// at tells an attribute.
func at(name string, values ...string) api.Attr {
	return api.Attr{Type: name, Values: values}
}

// of tells an entry.
func of(name string, attrs ...api.Attr) api.Entry {
	return api.Entry{DN: name, Attrs: attrs}
}

// domain tells a domain with these attributes beside the class.
func domain(name string, more ...api.Attr) api.Entry {
	return of(name, append(more, at("objectclass", "domain"))...)
}

// unit tells a unit likewise.
func unit(name string, more ...api.Attr) api.Entry {
	return of(name, append(more, at("objectclass", "organizationalunit"))...)
}

// group tells a group likewise.
func group(name string, more ...api.Attr) api.Entry {
	return of(name, append(more, at("objectclass", "group"))...)
}

// person tells a person likewise.
func person(name string, more ...api.Attr) api.Entry {
	return of(name, append(more, at("objectclass", "person"))...)
}

// isEntry tells whether both are the same, just as they stand.
func isEntry(a, b api.Entry) bool {
	return a.DN == b.DN && slices.EqualFunc(a.Attrs, b.Attrs, func(a, b api.Attr) bool {
		return a.Type == b.Type && slices.Equal(a.Values, b.Values)
	})
}

// isChange tells whether both are the same, just as they stand.
func isChange(a, b api.Change) bool {
	return a.N == b.N && a.Kind == b.Kind && a.Old == b.Old && isEntry(a.Before, b.Before) && isEntry(a.After, b.After)
}

// isList tells whether both have the same changes in one order.
func isList(a, b []api.Change) bool { return slices.EqualFunc(a, b, isChange) }

// isState tells whether both have the same entries in one order.
func isState(a, b []api.Entry) bool { return slices.EqualFunc(a, b, isEntry) }

// copied tells e with memory of its own.
func copied(e api.Entry) api.Entry {
	var attrs []api.Attr
	for _, a := range e.Attrs {
		attrs = append(attrs, at(a.Type, slices.Clone(a.Values)...))
	}
	return of(e.DN, attrs...)
}

// told tells the first changes of a list as they stand in a message.
func told(list []api.Change) string {
	var s strings.Builder
	s.WriteString(strconv.Itoa(len(list)) + " changes")
	for _, c := range list[:min(len(list), 4)] {
		fmt.Fprintf(&s, ", %d %d %.60q: %.400q becomes %.400q", c.N, c.Kind, c.Old, c.Before, c.After)
	}
	return s.String()
}

// tree tells a tree of the plain schema that has these entries.
func tree(t *testing.T, list ...api.Entry) *dit.Tree {
	t.Helper()
	d := dit.New(schema.Plain())
	put(t, d, list...)
	return d
}

// put adds these entries to d.
func put(t *testing.T, d *dit.Tree, list ...api.Entry) {
	t.Helper()
	for _, e := range list {
		if code := d.Add(e); code != api.Success {
			t.Fatalf("Add of %.200q: %d", e, code)
		}
	}
}

// state tells all that d has, in its order.
func state(d *dit.Tree) []api.Entry {
	var list []api.Entry
	for _, name := range d.Names() {
		e, _ := d.Get(name)
		list = append(list, e)
	}
	return list
}

// some is the tree of most tests.
func some(t *testing.T) *dit.Tree {
	t.Helper()
	return tree(t,
		domain("dc=b", at("DC", "z", "B"), at("description", "Top")),
		unit("ou=x,dc=b", at("ou", "X", "y")),
		group("cn=g,ou=x,dc=b", at("cn", "g"), at("member", "cn=al ko,ou=x,dc=b")),
		unit("ou=m,cn=g,ou=x,dc=b", at("ou", "m")),
		person("cn=al ko,ou=x,dc=b", at("cn", "A", "Al  Ko", "c"), at("sn", "S"), at("uid", "u")),
		group("cn=h,dc=b", at("cn", "H")),
		unit("ou=xx,dc=b", at("ou", "xx")),
		person("cn=p+sn=q,ou=xx,dc=b", at("cn", "P"), at("sn", "q", "r")),
		domain("dc=c", at("dc", "c")),
	)
}

// to tells the message of a rename within what it stands below.
func to(name, rdn string) api.Msg { return api.Msg{DN: name, RDN: rdn} }

// drop tells m, with the old values gone.
func drop(m api.Msg) api.Msg {
	m.DropOld = true
	return m
}

// below tells m, moved below another name.
func below(above string, m api.Msg) api.Msg {
	m.Move, m.Above = true, above
	return m
}

// pair is what becomes of an entry: its old name, and what it is afterwards.
type pair struct {
	old   string
	after api.Entry
}

// made are renames of some, and what becomes of the entries that they change.
var made = []struct {
	what string
	m    api.Msg
	want []pair
}{
	{"a leaf", to("cn=h,dc=b", "cn=i"), []pair{
		{"cn=h,dc=b", group("cn=i,dc=b", at("cn", "H", "i"))},
	}},
	{"a leaf, the old value gone", drop(to("cn=h,dc=b", "cn=i")), []pair{
		{"cn=h,dc=b", group("cn=i,dc=b", at("cn", "i"))},
	}},
	{"names in other letters, with blanks", drop(to(" CN = H , DC=B", " cN =  I   j ")), []pair{
		{"cn=h,dc=b", group("cn=i j,dc=b", at("cn", "i j"))},
	}},
	{"to itself", to("cn=h,dc=b", "cn=h"), []pair{
		{"cn=h,dc=b", group("cn=h,dc=b", at("cn", "H"))},
	}},
	{"to itself, the old value gone", drop(to("cn=h,dc=b", "CN=H")), []pair{
		{"cn=h,dc=b", group("cn=h,dc=b", at("cn", "H"))},
	}},
	{"to itself, moved to where it is", below("DC = b", drop(to("cn=h,dc=b", "CN=H"))), []pair{
		{"cn=h,dc=b", group("cn=h,dc=b", at("cn", "H"))},
	}},
	{"what has entries below it, parents first", to("ou=x,dc=b", "ou=a"), []pair{
		{"ou=x,dc=b", unit("ou=a,dc=b", at("ou", "X", "y", "a"))},
		{"cn=al ko,ou=x,dc=b", person("cn=al ko,ou=a,dc=b", at("cn", "A", "Al  Ko", "c"), at("sn", "S"), at("uid", "u"))},
		{"cn=g,ou=x,dc=b", group("cn=g,ou=a,dc=b", at("cn", "g"), at("member", "cn=al ko,ou=x,dc=b"))},
		{"ou=m,cn=g,ou=x,dc=b", unit("ou=m,cn=g,ou=a,dc=b", at("ou", "m"))},
	}},
	{"what has entries below it, to itself", drop(to("ou=x,dc=b", "ou=x")), []pair{
		{"ou=x,dc=b", unit("ou=x,dc=b", at("ou", "X", "y"))},
		{"cn=al ko,ou=x,dc=b", person("cn=al ko,ou=x,dc=b", at("cn", "A", "Al  Ko", "c"), at("sn", "S"), at("uid", "u"))},
		{"cn=g,ou=x,dc=b", group("cn=g,ou=x,dc=b", at("cn", "g"), at("member", "cn=al ko,ou=x,dc=b"))},
		{"ou=m,cn=g,ou=x,dc=b", unit("ou=m,cn=g,ou=x,dc=b", at("ou", "m"))},
	}},
	{"a value that is there already", drop(to("ou=x,dc=b", "ou=Y")), []pair{
		{"ou=x,dc=b", unit("ou=y,dc=b", at("ou", "y"))},
		{"cn=al ko,ou=x,dc=b", person("cn=al ko,ou=y,dc=b", at("cn", "A", "Al  Ko", "c"), at("sn", "S"), at("uid", "u"))},
		{"cn=g,ou=x,dc=b", group("cn=g,ou=y,dc=b", at("cn", "g"), at("member", "cn=al ko,ou=x,dc=b"))},
		{"ou=m,cn=g,ou=x,dc=b", unit("ou=m,cn=g,ou=y,dc=b", at("ou", "m"))},
	}},
	{"moved, below another one", below("ou=xx,dc=b", to("cn=g,ou=x,dc=b", "cn=g")), []pair{
		{"cn=g,ou=x,dc=b", group("cn=g,ou=xx,dc=b", at("cn", "g"), at("member", "cn=al ko,ou=x,dc=b"))},
		{"ou=m,cn=g,ou=x,dc=b", unit("ou=m,cn=g,ou=xx,dc=b", at("ou", "m"))},
	}},
	{"moved, with another own part", below("DC=C", drop(to("cn=g,ou=x,dc=b", "cn=k"))), []pair{
		{"cn=g,ou=x,dc=b", group("cn=k,dc=c", at("cn", "k"), at("member", "cn=al ko,ou=x,dc=b"))},
		{"ou=m,cn=g,ou=x,dc=b", unit("ou=m,cn=k,dc=c", at("ou", "m"))},
	}},
	{"moved below one that stood beside it", below("cn=h,dc=b", to("ou=xx,dc=b", "ou=xx")), []pair{
		{"ou=xx,dc=b", unit("ou=xx,cn=h,dc=b", at("ou", "xx"))},
		{"cn=p+sn=q,ou=xx,dc=b", person("cn=p+sn=q,ou=xx,cn=h,dc=b", at("cn", "P"), at("sn", "q", "r"))},
	}},
	{"moved below nothing", below("", to("cn=h,dc=b", "cn=h")), []pair{
		{"cn=h,dc=b", group("cn=h", at("cn", "H"))},
	}},
	{"moved below nothing, with another own part", below("", drop(to("ou=xx,dc=b", "ou=k"))), []pair{
		{"ou=xx,dc=b", unit("ou=k", at("ou", "k"))},
		{"cn=p+sn=q,ou=xx,dc=b", person("cn=p+sn=q,ou=k", at("cn", "P"), at("sn", "q", "r"))},
	}},
	{"moved up", below("dc=b", to("ou=m,cn=g,ou=x,dc=b", "ou=m")), []pair{
		{"ou=m,cn=g,ou=x,dc=b", unit("ou=m,dc=b", at("ou", "m"))},
	}},
	{"below nothing, and stays there", drop(to("dc=c", "dc=d")), []pair{
		{"dc=c", domain("dc=d", at("dc", "d"))},
	}},
	{"where it is moved counts for nothing unless it is", api.Msg{DN: "cn=h,dc=b", RDN: "cn=i", Above: "no name"}, []pair{
		{"cn=h,dc=b", group("cn=i,dc=b", at("cn", "H", "i"))},
	}},
	{"where it is moved counts for nothing unless it is, a name", api.Msg{DN: "cn=h,dc=b", RDN: "cn=i", Above: "dc=c"}, []pair{
		{"cn=h,dc=b", group("cn=i,dc=b", at("cn", "H", "i"))},
	}},
	{"of two pairs one stays", drop(to("cn=p+sn=q,ou=xx,dc=b", "sn=Q+cn=n")), []pair{
		{"cn=p+sn=q,ou=xx,dc=b", person("cn=n+sn=q,ou=xx,dc=b", at("cn", "n"), at("sn", "q", "r"))},
	}},
	{"of two pairs none stays", drop(to("cn=p+sn=q,ou=xx,dc=b", "sn=r+cn=q")), []pair{
		{"cn=p+sn=q,ou=xx,dc=b", person("cn=q+sn=r,ou=xx,dc=b", at("cn", "q"), at("sn", "r"))},
	}},
	{"two pairs become one", drop(to("cn=p+sn=q,ou=xx,dc=b", "cn=p")), []pair{
		{"cn=p+sn=q,ou=xx,dc=b", person("cn=p,ou=xx,dc=b", at("cn", "P"), at("sn", "r"))},
	}},
	{"two pairs become one, the old values stay", to("cn=p+sn=q,ou=xx,dc=b", "cn=p"), []pair{
		{"cn=p+sn=q,ou=xx,dc=b", person("cn=p,ou=xx,dc=b", at("cn", "P"), at("sn", "q", "r"))},
	}},
	{"one pair becomes two", to("cn=al ko,ou=x,dc=b", "sn=T+cn=c"), []pair{
		{"cn=al ko,ou=x,dc=b", person("cn=c+sn=t,ou=x,dc=b", at("cn", "A", "Al  Ko", "c"), at("sn", "S", "t"), at("uid", "u"))},
	}},
	{"one pair becomes two, the old value gone", drop(to("cn=al ko,ou=x,dc=b", "sn=T+cn=c")), []pair{
		{"cn=al ko,ou=x,dc=b", person("cn=c+sn=t,ou=x,dc=b", at("cn", "A", "c"), at("sn", "S", "t"), at("uid", "u"))},
	}},
	{"another type that is there", to("cn=al ko,ou=x,dc=b", "UID=U"), []pair{
		{"cn=al ko,ou=x,dc=b", person("uid=u,ou=x,dc=b", at("cn", "A", "Al  Ko", "c"), at("sn", "S"), at("uid", "u"))},
	}},
	{"another type that was not there", drop(to("cn=al ko,ou=x,dc=b", "mail=M")), []pair{
		{"cn=al ko,ou=x,dc=b", person("mail=m,ou=x,dc=b", at("cn", "A", "c"), at("mail", "m"), at("sn", "S"), at("uid", "u"))},
	}},
	{"the value goes by its type alone", drop(to("cn=al ko,ou=x,dc=b", "sn=al ko")), []pair{
		{"cn=al ko,ou=x,dc=b", person("sn=al ko,ou=x,dc=b", at("cn", "A", "c"), at("sn", "S", "al ko"), at("uid", "u"))},
	}},
	{"the class itself", to("cn=h,dc=b", "objectclass=group"), []pair{
		{"cn=h,dc=b", group("objectclass=group,dc=b", at("cn", "H"))},
	}},
	{"a value with signs", drop(to("cn=h,dc=b", `cn=\ A\,b\+\00\C3=`)), []pair{
		{"cn=h,dc=b", group("cn=a\\,b\\+\\00\xc3\\=,dc=b", at("cn", "a,b+\x00\xc3="))},
	}},
}

// wanted tells the changes of d that these pairs are.
func wanted(d *dit.Tree, list []pair) []api.Change {
	var out []api.Change
	for _, p := range list {
		before, _ := d.Get(p.old)
		out = append(out, api.Change{Kind: api.ChangeRename, Before: before, After: entry.Clean(p.after), Old: p.old})
	}
	return out
}

// moved tells what these changes make of all that d has: another tree, built from nothing.
func moved(t *testing.T, d *dit.Tree, list []api.Change) *dit.Tree {
	t.Helper()
	all := map[string]api.Entry{}
	for _, e := range state(d) {
		all[e.DN] = e
	}
	for _, c := range list {
		delete(all, c.Before.DN)
	}
	for _, c := range list {
		all[c.After.DN] = c.After
	}
	var names []string
	for name := range all {
		names = append(names, name)
	}
	slices.SortFunc(names, func(a, b string) int { return parts(a) - parts(b) })
	k := dit.New(d.Schema())
	for _, name := range names {
		put(t, k, all[name])
	}
	return k
}

// parts tells how many parts the name s has.
func parts(s string) int {
	d, _ := dn.Read(s)
	return len(d)
}

// holds holds what Plan and Do make of m against these changes, and leaves d as it was.
func holds(t *testing.T, what string, d *dit.Tree, m api.Msg, want []api.Change) {
	t.Helper()
	was := state(d)
	got, code := Plan(d, m)
	if code != api.Success || !isList(got, want) {
		t.Errorf("%s: Plan: %s, %d, not %s", what, told(got), code, told(want))
	}
	if !isState(state(d), was) {
		t.Errorf("%s: Plan has changed the tree", what)
	}
	k := d.Copy()
	got, code = Do(k, m)
	if code != api.Success || !isList(got, want) {
		t.Errorf("%s: Do: %s, %d, not %s", what, told(got), code, told(want))
	}
	if !isState(state(k), state(moved(t, d, want))) {
		t.Errorf("%s: Do has made %.800q", what, state(k))
	}
	if k.Len() != d.Len() {
		t.Errorf("%s: Do has left %d entries of %d", what, k.Len(), d.Len())
	}
	for _, c := range want {
		if _, ok := k.Get(c.Before.DN); ok && !slices.ContainsFunc(want, func(o api.Change) bool { return o.After.DN == c.Before.DN }) {
			t.Errorf("%s: %.40q is still there", what, c.Before.DN)
		}
		if e, ok := k.Get(c.After.DN); !ok || !isEntry(e, c.After) {
			t.Errorf("%s: %.40q is not there", what, c.After.DN)
		}
	}
	if !isState(state(d), was) {
		t.Errorf("%s: Do has changed another tree", what)
	}
}

// filled tells m with something in all fields that a rename doesn't look at.
func filled(m api.Msg) api.Msg {
	return api.Msg{
		ID: -1, Kind: api.MsgDelete, DN: m.DN, Password: "p", Scope: 9, Limit: -3, Types: true,
		Filter: api.Filter{Kind: 99}, Attrs: []string{"\xff"}, Entry: of("x", at("y", "z")), Mods: []api.Mod{{Op: 7}},
		RDN: m.RDN, DropOld: m.DropOld, Above: m.Above, Move: m.Move, Attr: "cn", Value: "v", Target: 5,
		Result: api.Result{Code: 1}, Controls: []api.Control{{OID: "1", Critical: true}},
	}
}

func TestMade(t *testing.T) {
	for _, c := range made {
		d := some(t)
		want := wanted(d, c.want)
		holds(t, c.what, d, c.m, want)
		holds(t, c.what+", other fields filled", d, filled(c.m), want)
	}
}

// refused holds that m tells this code, and nothing else, and changes nothing.
func refused(t *testing.T, what string, d *dit.Tree, m api.Msg, want int) {
	t.Helper()
	was := state(d)
	for name, call := range map[string]func(*dit.Tree, api.Msg) ([]api.Change, int){"Plan": Plan, "Do": Do} {
		if got, code := call(d, m); code != want || len(got) != 0 {
			t.Errorf("%s: %s: %d changes, %d, not %d", what, name, len(got), code, want)
		}
		if !isState(state(d), was) {
			t.Errorf("%s: %s has changed the tree", what, name)
		}
	}
}

// chain tells a name of n parts, each of them dc=a.
func chain(n int) string {
	return strings.TrimSuffix(strings.Repeat("dc=a,", n), ",")
}

// long is a text of more than 4096 bytes.
var long = "cn=" + strings.Repeat("a", 4096)

// codes are renames of some that may not be, and what is told of each.
var codes = []struct {
	what string
	m    api.Msg
	want int
}{
	{"no name", to("cn", "cn=i"), api.InvalidDN},
	{"a name with a part of none", to("cn=h,,dc=b", "cn=i"), api.InvalidDN},
	{"a name that is too long", to(long, "cn=i"), api.InvalidDN},
	{"a name of 33 parts", to(chain(33), "cn=i"), api.InvalidDN},
	{"a name whose value folds to nothing", to(`cn=\ ,dc=b`, "cn=i"), api.InvalidDN},
	{"an own part that is none", to("cn=h,dc=b", "cn"), api.InvalidDN},
	{"an own part without a value", to("cn=h,dc=b", "cn="), api.InvalidDN},
	{"an own part with a type twice", to("cn=h,dc=b", "cn=i+CN=j"), api.InvalidDN},
	{"an own part of 257 bytes", to("cn=h,dc=b", "cn="+strings.Repeat("a", 257)), api.InvalidDN},
	{"an own part of 9 pairs", to("cn=h,dc=b", "a=i+b=i+c=i+d=i+e=i+f=i+g=i+h=i+i=i"), api.InvalidDN},
	{"an own part of none", to("cn=h,dc=b", ""), api.InvalidDN},
	{"an own part of two", to("cn=h,dc=b", "cn=i,dc=b"), api.InvalidDN},
	{"an own part with a comma behind", to("cn=h,dc=b", "cn=i,"), api.InvalidDN},
	{"below no name", below("dc", to("cn=h,dc=b", "cn=i")), api.InvalidDN},
	{"below a blank", below(" ", to("cn=h,dc=b", "cn=i")), api.InvalidDN},
	{"below a name that is too long", below(long, to("cn=h,dc=b", "cn=i")), api.InvalidDN},
	{"below a name of 33 parts", below(chain(33), to("cn=h,dc=b", "cn=i")), api.InvalidDN},
	{"nothing there", to("cn=z,dc=b", "cn=i"), api.NoObject},
	{"nothing there, the empty name", to("", "cn=i"), api.NoObject},
	{"nothing there, the empty name, moved", below("dc=b", to("", "cn=i")), api.NoObject},
	{"nothing there, above neither", to("cn=z,dc=z", "cn=i"), api.NoObject},
	{"33 parts together", below(chain(32), to("cn=h,dc=b", "cn=i")), api.InvalidDN},
	{"right below itself", below("ou=x,dc=b", to("ou=x,dc=b", "ou=x")), api.Unwilling},
	{"right below itself, other letters", below("OU=X, DC=B", to("ou=x,dc=b", "ou=k")), api.Unwilling},
	{"right below itself, where one is", below("ou=x,dc=b", to("ou=x,dc=b", "cn=g")), api.Unwilling},
	{"below one that is below it", below("cn=g,ou=x,dc=b", to("ou=x,dc=b", "ou=x")), api.Unwilling},
	{"below a leaf that is itself", below("cn=h,dc=b", to("cn=h,dc=b", "cn=h")), api.Unwilling},
	{"below itself below nothing", below("dc=c", to("dc=c", "dc=c")), api.Unwilling},
	{"below one that would be below it", below("cn=z,ou=x,dc=b", to("ou=x,dc=b", "ou=x")), api.Unwilling},
	{"below what is not there", below("dc=z", to("cn=h,dc=b", "cn=i")), api.NoObject},
	{"below what is not there below what is", below("ou=z,dc=b", to("cn=h,dc=b", "cn=h")), api.NoObject},
	{"where one is", to("ou=x,dc=b", "ou=xx"), api.EntryExists},
	{"where one is, other letters", drop(to("ou=xx,dc=b", "OU = X")), api.EntryExists},
	{"where one is, moved", below("ou=xx,dc=b", to("cn=h,dc=b", "sn=q+cn=p")), api.EntryExists},
	{"where the one above it is", below("", to("cn=h,dc=b", "dc=b")), api.EntryExists},
	{"where the one above it is, with more below", below("", to("ou=x,dc=b", "dc=b")), api.EntryExists},
	{"no such type", to("cn=h,dc=b", "zz=i"), api.UndefinedType},
	{"one of two is no such type", drop(to("cn=h,dc=b", "cn=h+zz=i")), api.UndefinedType},
	{"no value of its type", to("cn=al ko,ou=x,dc=b", "uidnumber=i"), api.InvalidSyntax},
	{"no name as a value of its type", to("cn=al ko,ou=x,dc=b", "member=i"), api.InvalidSyntax},
	{"two of what there is one at most", to("cn=al ko,ou=x,dc=b", "uid=v"), api.Constraint},
	{"what its class has not", to("cn=h,dc=b", "ou=i"), api.ClassViolation},
	{"what must be there is gone", drop(to("cn=h,dc=b", "description=i")), api.ClassViolation},
	{"no such class", to("cn=h,dc=b", "objectclass=i"), api.ClassViolation},
	{"another class, whose attributes are there", to("cn=h,dc=b", "objectclass=person"), api.ClassViolation},

	{"no name, no own part", to("cn", ""), api.InvalidDN},
	{"nothing there, no own part", to("cn=z,dc=b", ""), api.InvalidDN},
	{"nothing there, below no name", below("x", to("cn=z,dc=b", "cn=i")), api.InvalidDN},
	{"nothing there, 33 parts together", below(chain(32), to("cn=z,dc=b", "cn=i")), api.NoObject},
	{"nothing there, below itself", below("cn=z,dc=b", to("cn=z,dc=b", "cn=i")), api.NoObject},
	{"nothing there, where one is", to("cn=z,dc=b", "cn=h"), api.NoObject},
	{"nothing there, no such type", to("cn=z,dc=b", "zz=h"), api.NoObject},
	{"below itself, 33 parts together", below(strings.Repeat("dc=a,", 30)+"ou=x,dc=b", to("ou=x,dc=b", "cn=i")), api.InvalidDN},
	{"below itself, what is not there", below("dc=z,ou=x,dc=b", to("ou=x,dc=b", "zz=i")), api.Unwilling},
	{"below what is not there, no such type", below("dc=z", to("cn=h,dc=b", "zz=i")), api.NoObject},
	{"where one is, no such class's attribute", below("", to("cn=h,dc=b", "dc=c")), api.EntryExists},
	{"where one is, what must be there is gone", below("", drop(to("cn=h,dc=b", "dc=b"))), api.EntryExists},
}

func TestCodes(t *testing.T) {
	for _, c := range codes {
		d := some(t)
		refused(t, c.what, d, c.m, c.want)
		refused(t, c.what+", other fields filled", d, filled(c.m), c.want)
	}
}

// TestParts holds names of 32 and of 33 parts, of the entry itself and of those below it.
func TestParts(t *testing.T) {
	d := dit.New(schema.Plain())
	for n := 1; n <= 30; n++ {
		put(t, d, domain(chain(n), at("dc", "a")))
	}
	put(t, d,
		unit("ou=p", at("ou", "p")), unit("ou=q,ou=p", at("ou", "q")), unit("ou=r,ou=q,ou=p", at("ou", "r")), unit("ou=s,ou=q,ou=p", at("ou", "s")),
	)
	of := func(above, name string) pair {
		value := strings.TrimPrefix(name[:4], "ou=")
		return pair{name, unit(strings.Replace(name, "ou=p", "ou=p,"+above, 1), at("ou", value))}
	}
	names := []string{"ou=p", "ou=q,ou=p", "ou=r,ou=q,ou=p", "ou=s,ou=q,ou=p"}
	var most []pair
	for _, name := range names {
		most = append(most, of(chain(29), name))
	}
	holds(t, "32 parts of those below", d, below(chain(29), to("ou=p", "ou=p")), wanted(d, most))
	refused(t, "33 parts of those below", d, below(chain(30), to("ou=p", "ou=p")), api.InvalidDN)
	refused(t, "33 parts of those below, no such class's attribute", d, below(chain(30), to("ou=p", "cn=p")), api.ClassViolation)
	refused(t, "33 parts of those below, no such type", d, below(chain(30), to("ou=p", "zz=p")), api.UndefinedType)
	put(t, d, domain(chain(31), at("dc", "a")), unit("ou=z", at("ou", "z")))
	holds(t, "32 parts", d, below(chain(31), to("ou=z", "ou=z")), wanted(d, []pair{{"ou=z", unit("ou=z,"+chain(31), at("ou", "z"))}}))
	put(t, d, domain(chain(32), at("dc", "a")))
	refused(t, "33 parts", d, below(chain(32), to("ou=z", "ou=z")), api.InvalidDN)
	refused(t, "33 parts, no such type", d, below(chain(32), to("ou=z", "zz=z")), api.InvalidDN)
	refused(t, "33 parts, below itself", d, below(chain(32), to(chain(2), "dc=b")), api.InvalidDN)
}

// wide tells a text of n bytes that may be a value.
func wide(n int) string { return strings.Repeat("w", n) }

// TestBytes holds names of 4096 and of 4097 bytes, of the entry itself and of those below it.
func TestBytes(t *testing.T) {
	d := dit.New(schema.Plain())
	above := ""
	for range 15 {
		above = strings.TrimSuffix("dc="+wide(256)+","+above, ",")
		put(t, d, domain(above, at("dc", wide(256))))
	}
	left := 4096 - len(above) - len(",ou=")
	put(t, d, unit("ou=p", at("ou", "p")), unit("ou=q,ou=p", at("ou", "q")))
	refused(t, "4097 bytes", d, below(above, to("ou=q,ou=p", "ou="+wide(left+1))), api.InvalidDN)
	one := wide(left)
	holds(t, "4096 bytes", d, below(above, drop(to("ou=q,ou=p", "ou="+one))), wanted(d, []pair{{"ou=q,ou=p", unit("ou="+one+","+above, at("ou", one))}}))
	one = wide(left - len("ou=q,"))
	holds(t, "4096 bytes of one below", d, below(above, drop(to("ou=p", "ou="+one))), wanted(d, []pair{
		{"ou=p", unit("ou="+one+","+above, at("ou", one))},
		{"ou=q,ou=p", unit("ou=q,ou="+one+","+above, at("ou", "q"))},
	}))
	refused(t, "4097 bytes of one below", d, below(above, drop(to("ou=p", "ou="+one+"w"))), api.InvalidDN)
	refused(t, "4097 bytes of one below, what must be there is gone", d, below(above, drop(to("ou=p", "cn="+one+"w"))), api.ClassViolation)
	refused(t, "4097 bytes, nothing above", d, below("ou=w"+above[4:], to("ou=p", "ou="+wide(left+1))), api.InvalidDN)
}

// TestRules holds, for each rule, which values of the own part are the same as others.
func TestRules(t *testing.T) {
	for _, c := range []struct {
		what      string
		was       api.Entry
		rdn       string
		keep, let api.Entry
	}{
		{
			"numbers that are the same",
			person("uidnumber=007,dc=b", at("cn", "c"), at("sn", "s"), at("uidnumber", "07")), "uidnumber=7",
			person("uidnumber=7,dc=b", at("cn", "c"), at("sn", "s"), at("uidnumber", "07")),
			person("uidnumber=7,dc=b", at("cn", "c"), at("sn", "s"), at("uidnumber", "07")),
		},
		{
			"names that are the same",
			person(`member=cn \= a,dc=b`, at("cn", "c"), at("sn", "s"), at("member", "cn=b", "CN=A")), "member=CN=a",
			person(`member=cn\=a,dc=b`, at("cn", "c"), at("sn", "s"), at("member", "cn=b", "CN=A")),
			person(`member=cn\=a,dc=b`, at("cn", "c"), at("sn", "s"), at("member", "cn=b", "CN=A")),
		},
		{
			"names that are others",
			person(`member=cn \= a,dc=b`, at("cn", "c"), at("sn", "s"), at("member", "cn=b", "CN=A")), `member=CN = d\,DC=x`,
			person(`member=cn \= d\,dc\=x,dc=b`, at("cn", "c"), at("sn", "s"), at("member", "cn=b", "CN=A", "cn = d,dc=x")),
			person(`member=cn \= d\,dc\=x,dc=b`, at("cn", "c"), at("sn", "s"), at("member", "cn=b", "cn = d,dc=x")),
		},
		{
			"great letters are others by their rule",
			person("serialnumber=a,dc=b", at("cn", "c"), at("sn", "s"), at("serialnumber", "a", "B")), "serialnumber=B",
			person("serialnumber=b,dc=b", at("cn", "c"), at("sn", "s"), at("serialnumber", "a", "B", "b")),
			person("serialnumber=b,dc=b", at("cn", "c"), at("sn", "s"), at("serialnumber", "B", "b")),
		},
		{
			"great letters stay where small ones go",
			person("serialnumber=a,dc=b", at("cn", "c"), at("sn", "s"), at("serialnumber", "A", " a ", "b")), "serialnumber=b",
			person("serialnumber=b,dc=b", at("cn", "c"), at("sn", "s"), at("serialnumber", "A", " a ", "b")),
			person("serialnumber=b,dc=b", at("cn", "c"), at("sn", "s"), at("serialnumber", "A", "b")),
		},
		{
			"bytes that are the same",
			person("userpassword=p,dc=b", at("cn", "c"), at("sn", "s"), at("userpassword", "p")), "userPassword=P",
			person("userpassword=p,dc=b", at("cn", "c"), at("sn", "s"), at("userpassword", "p")),
			person("userpassword=p,dc=b", at("cn", "c"), at("sn", "s"), at("userpassword", "p")),
		},
		{
			"all pairs of eight",
			person("cn=c+description=d+mail=m+serialnumber=1+sn=s+uid=u+uidnumber=1+userpassword=p,dc=b",
				at("cn", "C"), at("description", "D"), at("mail", "M"), at("serialnumber", "1"), at("sn", "S"), at("uid", "U"), at("uidnumber", "01"), at("userpassword", "p")),
			"sn=t+cn=C+UID=u+uidnumber=0001+userpassword=p+member=cn=a+serialnumber=2+mail=n",
			person("cn=c+mail=n+member=cn\\=a+serialnumber=2+sn=t+uid=u+uidnumber=0001+userpassword=p,dc=b",
				at("cn", "C"), at("description", "D"), at("mail", "M", "n"), at("member", "cn=a"), at("serialnumber", "1", "2"), at("sn", "S", "t"), at("uid", "U"), at("uidnumber", "01"), at("userpassword", "p")),
			person("cn=c+mail=n+member=cn\\=a+serialnumber=2+sn=t+uid=u+uidnumber=0001+userpassword=p,dc=b",
				at("cn", "C"), at("mail", "n"), at("member", "cn=a"), at("serialnumber", "2"), at("sn", "t"), at("uid", "U"), at("uidnumber", "01"), at("userpassword", "p")),
		},
	} {
		d := tree(t, domain("dc=b", at("dc", "b")), c.was)
		holds(t, c.what, d, to(c.was.DN, c.rdn), wanted(d, []pair{{c.was.DN, c.keep}}))
		holds(t, c.what+", old ones gone", d, drop(to(c.was.DN, c.rdn)), wanted(d, []pair{{c.was.DN, c.let}}))
	}
	d := tree(t, domain("dc=b", at("dc", "b")), person("uid=u,dc=b", at("cn", "c"), at("sn", "s"), at("uid", "u")))
	refused(t, "two where there is one at most", d, to("uid=u,dc=b", "uid=v"), api.Constraint)
	holds(t, "another one where there is one at most", d, drop(to("uid=u,dc=b", "uid=V")), wanted(d, []pair{
		{"uid=u,dc=b", person("uid=v,dc=b", at("cn", "c"), at("sn", "s"), at("uid", "v"))},
	}))
}

// TestBeside holds that those whose names end, or begin, alike stay where they are.
func TestBeside(t *testing.T) {
	d := tree(t,
		domain("dc=b", at("dc", "b")), domain("dc=ab", at("dc", "ab")), domain("dc=b,dc=ab", at("dc", "b")),
		domain("dc=c,dc=b,dc=ab", at("dc", "c")), domain("dc=c,dc=b", at("dc", "c")), domain(`dc=c\,dc\=b`, at("dc", "c,dc=b")),
		domain(`dc=a\,dc\=b,dc=ab`, at("dc", "a,dc=b")), domain("dc=b,dc=b", at("dc", "b")),
	)
	holds(t, "names that end alike", d, drop(to("dc=b", "dc=x")), wanted(d, []pair{
		{"dc=b", domain("dc=x", at("dc", "x"))},
		{"dc=b,dc=b", domain("dc=b,dc=x", at("dc", "b"))},
		{"dc=c,dc=b", domain("dc=c,dc=x", at("dc", "c"))},
	}))
	holds(t, "the same part below itself", d, drop(to("dc=b,dc=b", "dc=x")), wanted(d, []pair{
		{"dc=b,dc=b", domain("dc=x,dc=b", at("dc", "x"))},
	}))
	holds(t, "moved below another one", d, below(`dc=c\,dc\=b`, to("dc=b", "dc=b")), wanted(d, []pair{
		{"dc=b", domain(`dc=b,dc=c\,dc\=b`, at("dc", "b"))},
		{"dc=b,dc=b", domain(`dc=b,dc=b,dc=c\,dc\=b`, at("dc", "b"))},
		{"dc=c,dc=b", domain(`dc=c,dc=b,dc=c\,dc\=b`, at("dc", "c"))},
	}))
	refused(t, "where one with a comma is", d, to("dc=b,dc=ab", `dc=a\,dc=b`), api.EntryExists)
}

// TestFull holds a tree with as many entries as may be.
func TestFull(t *testing.T) {
	d := tree(t, domain("dc=b", at("dc", "b")), domain("dc=c", at("dc", "c")), domain("dc=d", at("dc", "d")))
	want := []pair{{"dc=b", domain("dc=e,dc=c", at("dc", "b", "e"))}}
	for i := range 1021 {
		s := strconv.Itoa(100000 + i)
		put(t, d, unit("ou="+s+",dc=b", at("ou", s)))
		want = append(want, pair{"ou=" + s + ",dc=b", unit("ou="+s+",dc=e,dc=c", at("ou", s))})
	}
	if d.Len() != api.MaxEnts {
		t.Fatalf("%d entries", d.Len())
	}
	holds(t, "a full tree", d, below("dc=c", to("dc=b", "dc=e")), wanted(d, want))
	holds(t, "one of a full tree", d, below("dc=d", to("dc=c", "dc=b")), wanted(d, []pair{{"dc=c", domain("dc=b,dc=d", at("dc", "c", "b"))}}))
}

// TestDo holds renames one behind the other, there and back again.
func TestDo(t *testing.T) {
	d := some(t)
	was := state(d)
	for i, m := range []api.Msg{
		drop(to("dc=b", "dc=n")),
		below("dc=c", drop(to("ou=x,dc=n", "ou=y"))),
		below("ou=y,dc=c", to("dc=n", "dc=n")),
		to("dc=c", "dc=o"),
	} {
		if list, code := Do(d, m); code != api.Success || len(list) != []int{8, 4, 4, 9}[i] {
			t.Fatalf("Do %d: %d changes, %d", i, len(list), code)
		}
	}
	want := []string{
		"dc=o", "ou=y,dc=o", "cn=al ko,ou=y,dc=o", "cn=g,ou=y,dc=o", "ou=m,cn=g,ou=y,dc=o",
		"dc=n,ou=y,dc=o", "cn=h,dc=n,ou=y,dc=o", "ou=xx,dc=n,ou=y,dc=o", "cn=p+sn=q,ou=xx,dc=n,ou=y,dc=o",
	}
	if got := d.Names(); !slices.Equal(got, want) {
		t.Errorf("there: %q", got)
	}
	for i, m := range []api.Msg{
		drop(to("dc=o", "dc=c")),
		below("", to("dc=n,ou=y,dc=c", "dc=n")),
		below("dc=n", to("ou=y,dc=c", "ou=x")),
		drop(to("dc=n", "dc=b")),
	} {
		if _, code := Do(d, m); code != api.Success {
			t.Fatalf("back %d: %d", i, code)
		}
	}
	// Values that went come back as the name has them.
	for i, e := range was {
		for k, a := range e.Attrs {
			switch e.DN + " " + a.Type {
			case "dc=b dc":
				was[i].Attrs[k] = at("dc", "z", "b")
			case "ou=x,dc=b ou":
				was[i].Attrs[k] = at("ou", "y", "x")
			}
		}
	}
	if got := state(d); !isState(got, was) {
		t.Errorf("back: %q, not %q", got, was)
	}
}

// spoil writes to all that e has, as far as its lists reach.
func spoil(e api.Entry) {
	all := e.Attrs[:cap(e.Attrs)]
	for i, a := range all {
		for k := range a.Values[:cap(a.Values)] {
			a.Values[:cap(a.Values)][k] = "spoilt"
		}
		all[i] = at("spoilt", "spoilt")
	}
}

// TestMemory holds that what is told is no part of the tree, nor one change of another one.
func TestMemory(t *testing.T) {
	for _, c := range made {
		for name, call := range map[string]func(*dit.Tree, api.Msg) ([]api.Change, int){"Plan": Plan, "Do": Do} {
			d := some(t)
			got, _ := call(d, c.m)
			was := state(d)
			for i := range got {
				var kept []api.Entry
				for _, o := range got {
					kept = append(kept, copied(o.Before), copied(o.After))
				}
				spoil(got[i].Before)
				kept[2*i] = got[i].Before
				for k, o := range got {
					if !isEntry(o.Before, kept[2*k]) || !isEntry(o.After, kept[2*k+1]) {
						t.Errorf("%s, %s: change %d shares memory with %d", c.what, name, i, k)
					}
				}
			}
			for _, o := range got {
				spoil(o.After)
			}
			if !isState(state(d), was) {
				t.Errorf("%s, %s: what is told is the tree's own", c.what, name)
			}
		}
	}
}

func TestNil(t *testing.T) {
	for _, m := range []api.Msg{{}, to("dc=b", "dc=c"), to("", ""), to("dc", "dc=c"), below("x", to("dc=b", "dc=c")), filled(to("dc=b", "dc=c"))} {
		for name, call := range map[string]func(*dit.Tree, api.Msg) ([]api.Change, int){"Plan": Plan, "Do": Do} {
			if got, code := call(nil, m); code != api.Other || len(got) != 0 {
				t.Errorf("nil: %s of %.100q: %s, %d", name, m.DN, told(got), code)
			}
		}
	}
	for what, d := range map[string]*dit.Tree{"New(nil)": dit.New(nil), "zero": {}, "empty": dit.New(schema.Plain())} {
		refused(t, what, d, to("dc=b", "dc=c"), api.NoObject)
		refused(t, what, d, below("", to("dc=b", "dc=c")), api.NoObject)
		refused(t, what, d, to("", "dc=c"), api.NoObject)
		refused(t, what, d, to("dc=b", ""), api.InvalidDN)
		refused(t, what, d, to("dc", "dc=c"), api.InvalidDN)
		refused(t, what, d, api.Msg{}, api.InvalidDN)
	}
}

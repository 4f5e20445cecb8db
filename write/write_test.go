package write

import (
	"fmt"
	"slices"
	"strconv"
	"strings"
	"testing"

	"bothy/api"
	"bothy/dit"
	"bothy/entry"
	"bothy/place"
	"bothy/schema"
)

// at tells an attribute.
func at(name string, values ...string) api.Attr {
	return api.Attr{Type: name, Values: values}
}

// of tells an entry.
func of(name string, attrs ...api.Attr) api.Entry {
	return api.Entry{DN: name, Attrs: attrs}
}

// domain tells a domain with these attributes beside the class.
func domain(name string, more ...api.Attr) api.Entry {
	return of(name, append(more, at("objectclass", "domain"))...)
}

// unit tells a unit likewise.
func unit(name string, more ...api.Attr) api.Entry {
	return of(name, append(more, at("objectclass", "organizationalunit"))...)
}

// person tells a person likewise.
func person(name string, more ...api.Attr) api.Entry {
	return of(name, append(more, at("objectclass", "person"))...)
}

// mod tells a mod.
func mod(op int, name string, values ...string) api.Mod {
	return api.Mod{Op: op, Attr: at(name, values...)}
}

// isEntry tells whether both are the same, just as they stand.
func isEntry(a, b api.Entry) bool {
	return a.DN == b.DN && slices.EqualFunc(a.Attrs, b.Attrs, func(a, b api.Attr) bool {
		return a.Type == b.Type && slices.Equal(a.Values, b.Values)
	})
}

// isChange tells whether both are the same, just as they stand.
func isChange(a, b api.Change) bool {
	return a.N == b.N && a.Kind == b.Kind && a.Old == b.Old && isEntry(a.Before, b.Before) && isEntry(a.After, b.After)
}

// isList tells whether both have the same changes in one order.
func isList(a, b []api.Change) bool { return slices.EqualFunc(a, b, isChange) }

// isState tells whether both have the same entries in one order.
func isState(a, b []api.Entry) bool { return slices.EqualFunc(a, b, isEntry) }

// told tells the first changes of a list as they stand in a message.
func told(list []api.Change) string {
	s := strconv.Itoa(len(list)) + " changes"
	for _, c := range list[:min(len(list), 4)] {
		s += fmt.Sprintf(", %d %d %.60q: %.400q becomes %.400q", c.N, c.Kind, c.Old, c.Before, c.After)
	}
	return s
}

// put adds these entries to d.
func put(t *testing.T, d *dit.Tree, list ...api.Entry) {
	t.Helper()
	for _, e := range list {
		if code := d.Add(e); code != api.Success {
			t.Fatalf("Add of %.200q: %d", e, code)
		}
	}
}

// tree tells a tree of the plain schema that has these entries.
func tree(t *testing.T, list ...api.Entry) *dit.Tree {
	t.Helper()
	d := dit.New(schema.Plain())
	put(t, d, list...)
	return d
}

// state tells all that d has, in its order.
func state(d *dit.Tree) []api.Entry {
	var list []api.Entry
	for _, name := range d.Names() {
		e, _ := d.Get(name)
		list = append(list, e)
	}
	return list
}

// behind tells all that there is behind these changes, in a tree's order.
func behind(t *testing.T, d *dit.Tree, list []api.Change) []api.Entry {
	t.Helper()
	all := map[string]api.Entry{}
	for _, e := range state(d) {
		all[e.DN] = e
	}
	for _, c := range list {
		delete(all, c.Before.DN)
	}
	for _, c := range list {
		if c.Kind != api.ChangeDelete {
			all[c.After.DN] = c.After
		}
	}
	var names []string
	for name := range all {
		names = append(names, name)
	}
	slices.SortFunc(names, func(a, b string) int { return place.Depth(a) - place.Depth(b) })
	k := dit.New(d.Schema())
	for _, name := range names {
		put(t, k, all[name])
	}
	return state(k)
}

// may tells a rule that gives everybody the right to write an attribute.
func may(below, attr string) api.Rule {
	return api.Rule{Who: "*", Below: below, Attr: attr, Right: api.Write, Allow: true}
}

// mayNot tells a rule that takes that right.
func mayNot(below, attr string) api.Rule {
	return api.Rule{Who: "*", Below: below, Attr: attr, Right: api.Write}
}

// reading tells r, of reading.
func reading(r api.Rule) api.Rule {
	r.Right = api.Read
	return r
}

// by tells r for this one alone.
func by(who string, r api.Rule) api.Rule {
	r.Who = who
	return r
}

// all are rules by which everybody may write everything.
func all() []api.Rule { return []api.Rule{may("", "*")} }

// call is one of the calls, with what is asked for.
type call func(d *dit.Tree, l []api.Rule, who string) ([]api.Change, int)

// adding, deleting, modifying and renaming tell calls; mods are held against the plain schema.
func adding(e api.Entry) call {
	return func(d *dit.Tree, l []api.Rule, who string) ([]api.Change, int) { return Add(d, l, who, e) }
}

func deleting(name string) call {
	return func(d *dit.Tree, l []api.Rule, who string) ([]api.Change, int) { return Delete(d, l, who, name) }
}

func modifying(name string, list ...api.Mod) call {
	return func(d *dit.Tree, l []api.Rule, who string) ([]api.Change, int) {
		return Modify(d, schema.Plain(), l, who, name, list)
	}
}

func renaming(m api.Msg) call {
	return func(d *dit.Tree, l []api.Rule, who string) ([]api.Change, int) { return Rename(d, l, who, m) }
}

// to tells the message of a rename within what it stands below.
func to(name, rdn string) api.Msg { return api.Msg{DN: name, RDN: rdn} }

// drop tells m, with the old values gone.
func drop(m api.Msg) api.Msg {
	m.DropOld = true
	return m
}

// below tells m, moved below another name.
func below(above string, m api.Msg) api.Msg {
	m.Move, m.Above = true, above
	return m
}

// first are the entries of most trees.
func first() []api.Entry {
	return []api.Entry{
		domain("dc=b", at("DC", "z", "B"), at("description", "Top")),
		unit("ou=x,dc=b", at("ou", "X", "y")),
		person("cn=al ko,ou=x,dc=b", at("cn", "A", "Al  Ko"), at("sn", "S"), at("uid", "u")),
		person("cn=g,ou=x,dc=b", at("cn", "g"), at("sn", "T"), at("member", "cn=al ko,ou=x,dc=b")),
		unit("ou=m,cn=g,ou=x,dc=b", at("ou", "m")),
		unit("ou=xx,dc=b", at("ou", "xx")),
		domain("dc=c", at("dc", "c")),
	}
}

// some is the tree of most tests.
func some(t *testing.T) *dit.Tree {
	t.Helper()
	return tree(t, first()...)
}

// was tells the entry of some at this name.
func was(name string) api.Entry {
	list := first()
	return entry.Clean(list[slices.IndexFunc(list, func(e api.Entry) bool { return e.DN == name })])
}

// moved tells the change of a name alone.
func moved(old, name string) api.Change {
	after := was(old)
	after.DN = name
	return api.Change{Kind: api.ChangeRename, Before: was(old), After: after, Old: old}
}

// added, gone, changed and renamed tell changes.
func added(e api.Entry) []api.Change {
	return []api.Change{{Kind: api.ChangeAdd, After: entry.Clean(e)}}
}

func gone(name string) []api.Change {
	return []api.Change{{Kind: api.ChangeDelete, Before: was(name)}}
}

func changed(e api.Entry) []api.Change {
	return []api.Change{{Kind: api.ChangeModify, Before: was(e.DN), After: entry.Clean(e)}}
}

func renamed(old string, e api.Entry, more ...api.Change) []api.Change {
	return append([]api.Change{{Kind: api.ChangeRename, Before: was(old), After: entry.Clean(e), Old: old}}, more...)
}

// need is a right that a change needs: to write an attribute at a name.
type need struct{ at, attr string }

// needs tells the rights to these attributes at a name.
func needs(name string, attrs ...string) []need {
	var list []need
	for _, attr := range attrs {
		list = append(list, need{name, attr})
	}
	return list
}

// entries tells the rights to what is called entry at these names.
func entries(names ...string) []need {
	var list []need
	for _, name := range names {
		list = append(list, need{name, "entry"})
	}
	return list
}

// just tells rules that give who these rights alone, but for the one at place i: nothing else at any name that is told here, or is in some.
func just(who string, list []need, i int) []api.Rule {
	names := []string{""}
	for _, e := range first() {
		names = append(names, e.DN)
	}
	for _, n := range list {
		names = append(names, n.at)
	}
	slices.SortFunc(names, func(a, b string) int { return place.Depth(b) - place.Depth(a) })
	var l []api.Rule
	for _, name := range names {
		for k, n := range list {
			if n.at == name && k != i {
				l = append(l, by(who, may(name, n.attr)))
			}
		}
		l = append(l, by(who, mayNot(name, "*")))
	}
	return append(l, may("", "*"))
}

// both tells two lists one behind the other.
func both(a, b []need) []need { return slices.Concat(a, b) }

// made are calls on some, what they change, and the rights that they need.
var made = []struct {
	what  string
	do    call
	want  []api.Change
	needs []need
}{
	{
		"add", adding(unit("ou=n,dc=b", at("ou", "N"))),
		added(unit("ou=n,dc=b", at("ou", "N"))), needs("ou=n,dc=b", "entry", "ou", "objectclass"),
	},
	{
		"add, a name in other letters, with blanks", adding(unit(" OU =  N   o , DC=B", at("OU", "n O"), at("Description", "d", "A"))),
		added(unit("ou=n o,dc=b", at("ou", "n O"), at("description", "d", "A"))), needs("ou=n o,dc=b", "entry", "ou", "objectclass", "description"),
	},
	{
		"add, below nothing", adding(domain("dc=d", at("dc", "D"))),
		added(domain("dc=d", at("dc", "D"))), needs("dc=d", "entry", "dc", "objectclass"),
	},
	{
		"add, below a leaf", adding(unit("ou=n,ou=m,cn=g,ou=x,dc=b", at("ou", "n"))),
		added(unit("ou=n,ou=m,cn=g,ou=x,dc=b", at("ou", "n"))), needs("ou=n,ou=m,cn=g,ou=x,dc=b", "entry", "ou", "objectclass"),
	},
	{
		"add, two pairs", adding(person("SN=t+CN=p,ou=xx,dc=b", at("sn", "T"), at("cn", "P"))),
		added(person("cn=p+sn=t,ou=xx,dc=b", at("cn", "P"), at("sn", "T"))), needs("cn=p+sn=t,ou=xx,dc=b", "entry", "cn", "sn", "objectclass"),
	},
	{
		"add, a value with signs", adding(unit(`OU=\ A\,B\+\0a,dc=c`, at("ou", "a,b+\n"))),
		added(unit(`ou=a\,b\+\0a,dc=c`, at("ou", "a,b+\n"))), needs(`ou=a\,b\+\0a,dc=c`, "entry", "ou", "objectclass"),
	},

	{"delete", deleting("dc=c"), gone("dc=c"), entries("dc=c")},
	{"delete, in other letters, with blanks", deleting(" OU = XX , DC=B"), gone("ou=xx,dc=b"), entries("ou=xx,dc=b")},
	{"delete, far below", deleting("ou=m,cn=g,ou=x,dc=b"), gone("ou=m,cn=g,ou=x,dc=b"), entries("ou=m,cn=g,ou=x,dc=b")},

	{
		"modify, a value more", modifying("dc=b", mod(api.ModAdd, "description", "x")),
		changed(domain("dc=b", at("dc", "z", "B"), at("description", "Top", "x"))), needs("dc=b", "description"),
	},
	{
		"modify, in other letters, with blanks", modifying(" Cn = AL  ko , OU=X,dc=b ", mod(api.ModReplace, "UidNumber", "007"), mod(api.ModDelete, "UID")),
		changed(person("cn=al ko,ou=x,dc=b", at("cn", "A", "Al  Ko"), at("sn", "S"), at("uidnumber", "007"))), needs("cn=al ko,ou=x,dc=b", "uidnumber", "uid"),
	},
	{
		"modify, one attribute again and again", modifying("dc=c", mod(api.ModAdd, "o", "x"), mod(api.ModDelete, "O", "X"), mod(api.ModReplace, "o", "y"), mod(api.ModAdd, "o", "x")),
		changed(domain("dc=c", at("dc", "c"), at("o", "y", "x"))), needs("dc=c", "o"),
	},
	{
		"modify, back again", modifying("dc=c", mod(api.ModAdd, "o", "x"), mod(api.ModDelete, "o")),
		changed(domain("dc=c", at("dc", "c"))), needs("dc=c", "o"),
	},
	{
		"modify, the name's value goes and comes", modifying("ou=x,dc=b", mod(api.ModDelete, "ou", "x"), mod(api.ModAdd, "ou", "x")),
		changed(unit("ou=x,dc=b", at("ou", "y", "x"))), needs("ou=x,dc=b", "ou"),
	},
	{
		"modify, the name's value in other letters", modifying("ou=x,dc=b", mod(api.ModReplace, "ou", " x ")),
		changed(unit("ou=x,dc=b", at("ou", " x "))), needs("ou=x,dc=b", "ou"),
	},
	{
		"modify, what others see", modifying("cn=g,ou=x,dc=b", mod(api.ModAdd, "member", "dc=z"), mod(api.ModReplace, "sn", "t", "U")),
		changed(person("cn=g,ou=x,dc=b", at("cn", "g"), at("sn", "t", "U"), at("member", "cn=al ko,ou=x,dc=b", "dc=z"))), needs("cn=g,ou=x,dc=b", "member", "sn"),
	},
	{"modify, no mods", modifying("dc=c"), changed(domain("dc=c", at("dc", "c"))), nil},

	{
		"rename", renaming(to("ou=xx,dc=b", "ou=n")),
		renamed("ou=xx,dc=b", unit("ou=n,dc=b", at("ou", "xx", "n"))), entries("ou=xx,dc=b", "ou=n,dc=b"),
	},
	{
		"rename, in other letters, the old value gone", renaming(drop(to(" OU = XX , DC=B", " oU =  N  o "))),
		renamed("ou=xx,dc=b", unit("ou=n o,dc=b", at("ou", "n o"))), entries("ou=xx,dc=b", "ou=n o,dc=b"),
	},
	{
		"rename, what has entries below it", renaming(to("ou=x,dc=b", "ou=a")),
		renamed("ou=x,dc=b", unit("ou=a,dc=b", at("ou", "X", "y", "a")),
			moved("cn=al ko,ou=x,dc=b", "cn=al ko,ou=a,dc=b"), moved("cn=g,ou=x,dc=b", "cn=g,ou=a,dc=b"), moved("ou=m,cn=g,ou=x,dc=b", "ou=m,cn=g,ou=a,dc=b")),
		both(entries("ou=x,dc=b", "cn=al ko,ou=x,dc=b", "cn=g,ou=x,dc=b", "ou=m,cn=g,ou=x,dc=b"), entries("ou=a,dc=b", "cn=al ko,ou=a,dc=b", "cn=g,ou=a,dc=b", "ou=m,cn=g,ou=a,dc=b")),
	},
	{
		"rename, moved", renaming(below("DC=c", to("cn=g,ou=x,dc=b", "cn=G"))),
		renamed("cn=g,ou=x,dc=b", person("cn=g,dc=c", at("cn", "g"), at("sn", "T"), at("member", "cn=al ko,ou=x,dc=b")), moved("ou=m,cn=g,ou=x,dc=b", "ou=m,cn=g,dc=c")),
		both(entries("cn=g,ou=x,dc=b", "ou=m,cn=g,ou=x,dc=b"), entries("cn=g,dc=c", "ou=m,cn=g,dc=c")),
	},
	{
		"rename, moved below nothing", renaming(below("", drop(to("ou=xx,dc=b", "ou=q")))),
		renamed("ou=xx,dc=b", unit("ou=q", at("ou", "q"))), entries("ou=xx,dc=b", "ou=q"),
	},
	{
		"rename, to itself", renaming(drop(to("cn=g,ou=x,dc=b", "CN=G"))),
		renamed("cn=g,ou=x,dc=b", was("cn=g,ou=x,dc=b"), moved("ou=m,cn=g,ou=x,dc=b", "ou=m,cn=g,ou=x,dc=b")), entries("cn=g,ou=x,dc=b", "ou=m,cn=g,ou=x,dc=b"),
	},
}

// makes holds that the call makes these changes, and those alone.
func makes(t *testing.T, what string, l []api.Rule, who string, do call, want []api.Change) {
	t.Helper()
	d := some(t)
	then := behind(t, d, want)
	got, code := do(d, l, who)
	if code != api.Success || !isList(got, want) {
		t.Errorf("%s: %s, %d, not %s", what, told(got), code, told(want))
	}
	if now := state(d); !isState(now, then) || d.Len() != len(then) {
		t.Errorf("%s: there is %.900q, not %.900q", what, now, then)
	}
}

// refuses holds that the call tells this code, and nothing else, and changes nothing.
func refuses(t *testing.T, what string, d *dit.Tree, l []api.Rule, who string, do call, want int) {
	t.Helper()
	then := state(d)
	if got, code := do(d, l, who); code != want || len(got) != 0 {
		t.Errorf("%s: %s, %d, not %d", what, told(got), code, want)
	}
	if now := state(d); !isState(now, then) {
		t.Errorf("%s: there is %.900q, not %.900q", what, now, then)
	}
}

// TestMade holds what is changed, by whom it may be, and that it may not be where one of the rights is not there.
func TestMade(t *testing.T) {
	for _, c := range made {
		makes(t, c.what, all(), "", c.do, c.want)
		whole := just("cn=x", c.needs, -1)
		makes(t, c.what+", just these rights", whole, "cn=x", c.do, c.want)
		for i, n := range c.needs {
			less := just("cn=x", c.needs, i)
			what := fmt.Sprintf("%s, not the right to %q", c.what, n)
			refuses(t, what, some(t), less, "cn=x", c.do, api.Insufficient)
			refuses(t, what+", taken", some(t), append([]api.Rule{by("cn=x", mayNot(n.at, n.attr))}, whole...), "cn=x", c.do, api.Insufficient)
			refuses(t, what+", just read", some(t), append([]api.Rule{reading(may("", "*"))}, less...), "cn=x", c.do, api.Insufficient)
			makes(t, what+", somebody else", less, "cn=y", c.do, c.want)
		}
		if len(c.needs) == 0 {
			makes(t, c.what+", no rules", nil, "", c.do, c.want)
			continue
		}
		refuses(t, c.what+", no rules", some(t), nil, "", c.do, api.Insufficient)
		refuses(t, c.what+", just read", some(t), []api.Rule{reading(may("", "*"))}, "cn=x", c.do, api.Insufficient)
		refuses(t, c.what+", somebody else's rules", some(t), []api.Rule{by("cn=x", may("", "*"))}, "cn=y", c.do, api.Insufficient)
		refuses(t, c.what+", nobody", some(t), []api.Rule{by("cn=x", may("", "*"))}, "", c.do, api.Insufficient)
		makes(t, c.what+", nobody's rules", []api.Rule{by("", may("", "*"))}, "", c.do, c.want)
		refuses(t, c.what+", a rule that may not be", some(t), []api.Rule{may("", "*"), may("DC=b", "*")}, "cn=x", c.do, api.Insufficient)
		makes(t, c.what+", 256 rules", slices.Repeat(all(), api.MaxRules), "cn=x", c.do, c.want)
		refuses(t, c.what+", 257 rules", some(t), slices.Repeat(all(), api.MaxRules+1), "cn=x", c.do, api.Insufficient)
		makes(t, c.what+", rules for what it doesn't need", append([]api.Rule{reading(mayNot("", "*")), mayNot("", "mail"), mayNot("dc=zz", "*"), by("cn=y", mayNot("", "*"))}, all()...), "cn=x", c.do, c.want)
	}
}

// TestLetters holds that attributes of rules and of what is asked for count by their small letters, and names as they count.
func TestLetters(t *testing.T) {
	for _, c := range []struct {
		what string
		do   call
		l    []api.Rule
	}{
		{"add", adding(unit("OU=N,dc=b", at("oU", "n"))), []api.Rule{may("ou=n,dc=b", "ENTRY"), may("dc=b", "Ou"), may("ou=n,dc=b", "OBJECTCLASS")}},
		{"delete", deleting("DC = C"), []api.Rule{may("dc=c", "Entry")}},
		{"modify", modifying("DC = C", mod(api.ModAdd, "dESCRIPTION", "d")), []api.Rule{may("dc=c", "DESCRIPTION")}},
		{"rename", renaming(to("DC = C", "DC = D")), []api.Rule{may("dc=c", "ENTRY"), may("dc=d", "eNTRY")}},
	} {
		if got, code := c.do(some(t), c.l, "cn=x"); code != api.Success || len(got) != 1 {
			t.Errorf("%s: %s, %d", c.what, told(got), code)
		}
		for i, r := range c.l {
			refuses(t, c.what+", without "+r.Attr, some(t), slices.Delete(slices.Clone(c.l), i, i+1), "cn=x", c.do, api.Insufficient)
			r.Allow = false
			refuses(t, c.what+", not "+r.Attr, some(t), slices.Insert(all(), 0, r), "cn=x", c.do, api.Insufficient)
		}
	}
}

// chain tells a name of n parts, each of them dc=a.
func chain(n int) string {
	return strings.TrimSuffix(strings.Repeat("dc=a,", n), ",")
}

// long is a name of more than 4096 bytes.
var long = "cn=" + strings.Repeat("a", 4096)

// names are texts that are no names.
var names = []string{"dc", ",", " ", "dc=", "=b", "dc=a,,dc=b", "dc=b,", `dc=\ `, `dc=\`, "dc=a\nb", "d c=b", "dc=b+DC=c", chain(33), long}

// TestNames holds that what is no name is told ahead of all else.
func TestNames(t *testing.T) {
	for _, name := range names {
		for what, do := range map[string]call{
			"add":    adding(unit(name, at("ou", "n"))),
			"delete": deleting(name),
			"modify": modifying(name, mod(9, "zz")),
			"rename": renaming(to(name, "ou=n")),
		} {
			refuses(t, fmt.Sprintf("%s %.40q", what, name), some(t), all(), "cn=x", do, api.InvalidDN)
			refuses(t, fmt.Sprintf("%s %.40q, no rules", what, name), some(t), nil, "cn=x", do, api.InvalidDN)
		}
	}
}

// many tells so many mods that may be.
func many(n int) []api.Mod { return slices.Repeat([]api.Mod{mod(api.ModReplace, "o", "x")}, n) }

// notThere are rules that give all, but at dc=c, and below it.
var notThere = []api.Rule{mayNot("dc=c", "*"), may("", "*")}

// codes are calls on some that may not be, and what is told of each.
var codes = []struct {
	what string
	l    []api.Rule
	do   call
	want int
}{
	{"add, the empty name", all(), adding(unit("", at("ou", "n"))), api.InvalidDN},
	{"add, the empty name, no rules", nil, adding(unit("", at("ou", "n"))), api.Insufficient},
	{"add, the empty name, rules for what is below", []api.Rule{may("dc=b", "*"), may("dc=c", "*")}, adding(unit("", at("ou", "n"))), api.Insufficient},
	{"add, what is there", all(), adding(was("dc=c")), api.EntryExists},
	{"add, what is there, other letters", all(), adding(unit("Dc = C", at("zz", "n"))), api.EntryExists},
	{"add, what is there, no rules", nil, adding(was("dc=c")), api.Insufficient},
	{"add, what is there, not the entry", []api.Rule{mayNot("dc=c", "entry"), may("", "*")}, adding(was("dc=c")), api.Insufficient},
	{"add, what is there, not an attribute", []api.Rule{mayNot("dc=c", "dc"), may("", "*")}, adding(was("dc=c")), api.Insufficient},
	{"add, nothing above", all(), adding(unit("ou=n,dc=z", at("ou", "n"))), api.NoObject},
	{"add, nothing above, nor such a type", all(), adding(unit("ou=n,dc=z", at("zz", "n"))), api.NoObject},
	{"add, nothing above, no rules", nil, adding(unit("ou=n,dc=z", at("ou", "n"))), api.Insufficient},
	{"add, no such type", all(), adding(unit("ou=n,dc=c", at("ou", "n"), at("zz", "n"))), api.UndefinedType},
	{"add, no such type, that may not be written", []api.Rule{mayNot("", "zz"), may("", "*")}, adding(unit("ou=n,dc=c", at("ou", "n"), at("ZZ", "n"))), api.Insufficient},
	{"add, no such type, rules for the others", []api.Rule{may("", "entry"), may("", "ou"), may("", "objectclass")}, adding(unit("ou=n,dc=c", at("ou", "n"), at("zz", "n"))), api.Insufficient},
	{"add, an attribute called entry", all(), adding(unit("ou=n,dc=c", at("ou", "n"), at("entry", "n"))), api.UndefinedType},
	{"add, an attribute called by no type", all(), adding(unit("ou=n,dc=c", at("ou", "n"), at("", "n"))), api.UndefinedType},
	{"add, an attribute called by no type, rules for the others", []api.Rule{may("", "entry"), may("", "ou"), may("", "objectclass")}, adding(unit("ou=n,dc=c", at("ou", "n"), at("", "n"))), api.Insufficient},
	{"add, no values", all(), adding(unit("ou=n,dc=c", at("ou", "n"), at("description"))), api.Constraint},
	{"add, no values, that may not be written", []api.Rule{mayNot("", "description"), may("", "*")}, adding(unit("ou=n,dc=c", at("ou", "n"), at("description"))), api.Insufficient},
	{"add, no attributes", all(), adding(of("ou=n,dc=c")), api.ClassViolation},
	{"add, no attributes, no rules", nil, adding(of("ou=n,dc=c")), api.Insufficient},
	{"add, no value of its type", all(), adding(person("cn=n,dc=c", at("cn", "n"), at("sn", "n"), at("uidnumber", "x"))), api.InvalidSyntax},
	{"add, a value twice", all(), adding(unit("ou=n,dc=c", at("ou", "n", "N"))), api.AttrExists},
	{"add, an attribute twice", all(), adding(unit("ou=n,dc=c", at("ou", "n"), at("OU", "o"))), api.AttrExists},
	{"add, an attribute twice, that may not be written", []api.Rule{mayNot("", "ou"), may("", "*")}, adding(unit("ou=n,dc=c", at("ou", "n"), at("OU", "o"))), api.Insufficient},
	{"add, two where there is one at most", all(), adding(person("cn=n,dc=c", at("cn", "n"), at("sn", "n"), at("uid", "u", "v"))), api.Constraint},
	{"add, what its class has not", all(), adding(unit("ou=n,dc=c", at("ou", "n"), at("cn", "n"))), api.ClassViolation},
	{"add, not what must be there", all(), adding(person("cn=n,dc=c", at("cn", "n"))), api.ClassViolation},
	{"add, another name than its own", all(), adding(unit("ou=n,dc=c", at("ou", "m"))), api.Naming},
	{"add, another name than its own, not below dc=c", notThere, adding(unit("ou=n,dc=c", at("ou", "m"))), api.Insufficient},
	{"add, a name of no type", all(), adding(unit("zz=n,dc=c", at("ou", "n"))), api.Naming},

	{"delete, nothing there", all(), deleting("dc=z"), api.NoObject},
	{"delete, nothing there, no rules", nil, deleting("dc=z"), api.Insufficient},
	{"delete, the empty name", all(), deleting(""), api.NoObject},
	{"delete, the empty name, no rules", nil, deleting(""), api.Insufficient},
	{"delete, the empty name, rules for what is below", []api.Rule{may("dc=b", "*"), may("dc=c", "*")}, deleting(""), api.Insufficient},
	{"delete, something below", all(), deleting("cn=g,ou=x,dc=b"), api.NonLeaf},
	{"delete, something below, no rules", nil, deleting("cn=g,ou=x,dc=b"), api.Insufficient},
	{"delete, something below, other letters", all(), deleting("DC=B"), api.NonLeaf},
	{"delete, each attribute but the entry", []api.Rule{mayNot("", "entry"), may("", "*")}, deleting("dc=c"), api.Insufficient},
	{"delete, not there but above", []api.Rule{mayNot("ou=xx,dc=b", "entry"), may("", "*")}, deleting("ou=xx,dc=b"), api.Insufficient},

	{"modify, nothing there", all(), modifying("dc=z", mod(api.ModAdd, "o", "x")), api.NoObject},
	{"modify, nothing there, no rules", nil, modifying("dc=z", mod(api.ModAdd, "o", "x")), api.NoObject},
	{"modify, nothing there, no mods", all(), modifying("dc=z"), api.NoObject},
	{"modify, the empty name", all(), modifying("", mod(api.ModAdd, "o", "x")), api.NoObject},
	{"modify, the empty name, no rules", nil, modifying("", mod(api.ModAdd, "o", "x")), api.NoObject},
	{"modify, just the entry", []api.Rule{may("", "entry")}, modifying("dc=c", mod(api.ModAdd, "o", "x")), api.Insufficient},
	{"modify, one of two", []api.Rule{may("", "o")}, modifying("dc=c", mod(api.ModAdd, "o", "x"), mod(api.ModAdd, "description", "x")), api.Insufficient},
	{"modify, one of two, the other way", []api.Rule{may("", "o")}, modifying("dc=c", mod(api.ModAdd, "description", "x"), mod(api.ModAdd, "o", "x")), api.Insufficient},
	{"modify, 65 mods", all(), modifying("dc=c", many(65)...), api.Unwilling},
	{"modify, 65 mods, no rules", nil, modifying("dc=c", many(65)...), api.Insufficient},
	{"modify, 65 mods, the last one of what may not be written", []api.Rule{mayNot("", "description"), may("", "*")}, modifying("dc=c", append(many(64), mod(api.ModDelete, "description"))...), api.Insufficient},
	{"modify, no such type", all(), modifying("dc=c", mod(api.ModAdd, "zz", "x")), api.UndefinedType},
	{"modify, no such type, no rules", nil, modifying("dc=c", mod(api.ModAdd, "zz", "x")), api.Insufficient},
	{"modify, no such type, behind what may not be", all(), modifying("dc=c", mod(api.ModDelete, "o"), mod(api.ModAdd, "zz", "x")), api.NoAttribute},
	{"modify, what is called entry", all(), modifying("dc=c", mod(api.ModDelete, "entry")), api.UndefinedType},
	{"modify, no type", all(), modifying("dc=c", mod(api.ModAdd, "", "x")), api.UndefinedType},
	{"modify, a star, rules for all types", []api.Rule{may("", "dc"), may("", "o"), may("", "description"), may("", "objectclass")}, modifying("dc=c", mod(api.ModAdd, "*", "x")), api.Insufficient},
	{"modify, no op", all(), modifying("dc=c", mod(3, "o", "x")), api.ProtocolError},
	{"modify, no op, no rules", nil, modifying("dc=c", mod(-1, "o", "x")), api.Insufficient},
	{"modify, no value of its type", all(), modifying("dc=c", mod(api.ModAdd, "o", " ")), api.InvalidSyntax},
	{"modify, nothing to add", all(), modifying("dc=c", mod(api.ModAdd, "o")), api.Constraint},
	{"modify, what is there to add", all(), modifying("dc=b", mod(api.ModAdd, "dc", "Z")), api.AttrExists},
	{"modify, what isn't there to delete", all(), modifying("dc=b", mod(api.ModDelete, "dc", "y")), api.NoAttribute},
	{"modify, what isn't there to delete, no rules for it", []api.Rule{mayNot("dc=b", "dc"), may("", "*")}, modifying("dc=b", mod(api.ModDelete, "dc", "y")), api.Insufficient},
	{"modify, what isn't there behind what may be", all(), modifying("dc=c", mod(api.ModAdd, "o", "x"), mod(api.ModDelete, "description")), api.NoAttribute},
	{"modify, the name's value gone", all(), modifying("ou=x,dc=b", mod(api.ModDelete, "ou", "X")), api.OnRDN},
	{"modify, the name's attribute gone", all(), modifying("ou=x,dc=b", mod(api.ModDelete, "ou")), api.OnRDN},
	{"modify, the name's value another one", all(), modifying("dc=c", mod(api.ModReplace, "DC", "d")), api.OnRDN},
	{"modify, the name's value gone, and no class left", all(), modifying("dc=c", mod(api.ModDelete, "dc"), mod(api.ModDelete, "objectclass")), api.OnRDN},
	{"modify, the name's value gone, and what isn't there", all(), modifying("dc=c", mod(api.ModDelete, "dc"), mod(api.ModDelete, "o")), api.NoAttribute},
	{"modify, the name's value gone, no rules for it", []api.Rule{may("", "o")}, modifying("dc=c", mod(api.ModDelete, "dc")), api.Insufficient},
	{"modify, no class left", all(), modifying("dc=c", mod(api.ModDelete, "objectclass")), api.ClassViolation},
	{"modify, another class", all(), modifying("dc=c", mod(api.ModReplace, "objectclass", "organizationalunit")), api.ClassViolation},
	{"modify, what its class has not", all(), modifying("dc=c", mod(api.ModAdd, "cn", "n")), api.ClassViolation},
	{"modify, not what must be there", all(), modifying("cn=g,ou=x,dc=b", mod(api.ModDelete, "sn")), api.ClassViolation},
	{"modify, two where there is one at most", all(), modifying("cn=al ko,ou=x,dc=b", mod(api.ModAdd, "uid", "v")), api.Constraint},
	{"modify, not below dc=c", notThere, modifying("dc=c", mod(api.ModAdd, "o", "x")), api.Insufficient},

	{"rename, nothing there", all(), renaming(to("dc=z", "dc=y")), api.NoObject},
	{"rename, nothing there, no rules", nil, renaming(to("dc=z", "dc=y")), api.Insufficient},
	{"rename, the empty name", all(), renaming(to("", "dc=y")), api.NoObject},
	{"rename, the empty name, no rules", nil, renaming(to("", "dc=y")), api.Insufficient},
	{"rename, no own part", all(), renaming(to("dc=c", "")), api.InvalidDN},
	{"rename, no own part, no rules", nil, renaming(to("dc=c", "")), api.Insufficient},
	{"rename, an own part that is none, no rules for it", notThere, renaming(to("dc=c", "dc")), api.Insufficient},
	{"rename, an own part of two", all(), renaming(to("dc=c", "dc=d,dc=b")), api.InvalidDN},
	{"rename, below no name", all(), renaming(below("dc", to("dc=c", "dc=d"))), api.InvalidDN},
	{"rename, below no name, no rules", nil, renaming(below("dc", to("dc=c", "dc=d"))), api.Insufficient},
	{"rename, 33 parts", all(), renaming(below(chain(32), to("dc=c", "dc=d"))), api.InvalidDN},
	{"rename, below itself", all(), renaming(below("dc=c", to("dc=c", "dc=d"))), api.Unwilling},
	{"rename, below itself, no rules", nil, renaming(below("dc=c", to("dc=c", "dc=d"))), api.Insufficient},
	{"rename, below what isn't there", all(), renaming(below("dc=z", to("dc=c", "dc=d"))), api.NoObject},
	{"rename, below what isn't there, no rules for that", []api.Rule{mayNot("dc=z", "*"), may("", "*")}, renaming(below("dc=z", to("dc=c", "dc=d"))), api.NoObject},
	{"rename, where one is", all(), renaming(to("ou=x,dc=b", "ou=xx")), api.EntryExists},
	{"rename, where one is, no rules for that", []api.Rule{mayNot("ou=xx,dc=b", "*"), may("", "*")}, renaming(to("ou=x,dc=b", "ou=xx")), api.EntryExists},
	{"rename, where one is, no rules for what is below", []api.Rule{mayNot("cn=g,ou=x,dc=b", "*"), may("", "*")}, renaming(to("ou=x,dc=b", "ou=xx")), api.EntryExists},
	{"rename, where one is, no rules for it", []api.Rule{mayNot("ou=x,dc=b", "*"), may("", "*")}, renaming(to("ou=x,dc=b", "ou=xx")), api.Insufficient},
	{"rename, no such type", all(), renaming(to("dc=c", "zz=d")), api.UndefinedType},
	{"rename, no such type, no rules for the new name", []api.Rule{mayNot("zz=d", "*"), may("", "*")}, renaming(to("dc=c", "zz=d")), api.UndefinedType},
	{"rename, no value of its type", all(), renaming(to("cn=al ko,ou=x,dc=b", "uidnumber=i")), api.InvalidSyntax},
	{"rename, two where there is one at most", all(), renaming(to("cn=al ko,ou=x,dc=b", "uid=v")), api.Constraint},
	{"rename, what its class has not", all(), renaming(to("dc=c", "cn=d")), api.ClassViolation},
	{"rename, what must be there is gone", all(), renaming(below("", drop(to("cn=g,ou=x,dc=b", "sn=t")))), api.ClassViolation},
	{"rename, what its class has not, no rules for the new name", []api.Rule{mayNot("cn=d", "*"), may("", "*")}, renaming(to("dc=c", "cn=d")), api.ClassViolation},
	{"rename, what its class has not, no rules for it", notThere, renaming(to("dc=c", "cn=d")), api.Insufficient},
	{"rename, each attribute but the entry", []api.Rule{mayNot("", "entry"), may("", "*")}, renaming(to("dc=c", "dc=d")), api.Insufficient},
	{"rename, just the old name", []api.Rule{may("dc=c", "*")}, renaming(to("dc=c", "dc=d")), api.Insufficient},
	{"rename, just the new name", []api.Rule{may("dc=d", "*")}, renaming(to("dc=c", "dc=d")), api.Insufficient},
	{"rename, to itself, nothing but it", []api.Rule{mayNot("ou=m,cn=g,ou=x,dc=b", "*"), may("", "*")}, renaming(to("cn=g,ou=x,dc=b", "cn=g")), api.Insufficient},
}

func TestCodes(t *testing.T) {
	for _, c := range codes {
		refuses(t, c.what, some(t), c.l, "cn=x", c.do, c.want)
	}
}

// TestNotAsked holds that rights to what a change isn't about are not asked for.
func TestNotAsked(t *testing.T) {
	for _, c := range []struct {
		what string
		l    []api.Rule
		do   call
	}{
		{"add, above", []api.Rule{may("ou=n,dc=b", "*"), mayNot("", "*")}, adding(unit("ou=n,dc=b", at("ou", "n")))},
		{"delete, its attributes", []api.Rule{may("", "entry"), mayNot("", "*")}, deleting("cn=al ko,ou=x,dc=b")},
		{"modify, its other attributes, and the entry", []api.Rule{may("", "o"), mayNot("", "*")}, modifying("dc=c", mod(api.ModAdd, "o", "x"))},
		{"modify, what is below", []api.Rule{mayNot("ou=x,dc=b", "*"), may("", "*")}, modifying("dc=b", mod(api.ModAdd, "o", "x"))},
		{"rename, its attributes, that of the name among them", []api.Rule{may("", "entry"), mayNot("", "*")}, renaming(drop(to("ou=xx,dc=b", "ou=n")))},
		{"rename, above", []api.Rule{may("ou=xx,dc=b", "*"), may("ou=n,dc=c", "*"), mayNot("", "*")}, renaming(below("dc=c", to("ou=xx,dc=b", "ou=n")))},
	} {
		d := some(t)
		then := state(d)
		if got, code := c.do(d, c.l, "cn=x"); code != api.Success || len(got) != 1 || isState(state(d), then) {
			t.Errorf("%s: %s, %d", c.what, told(got), code)
		}
	}
}

// TestOtherFields holds that a rename looks at no field that it hasn't.
func TestOtherFields(t *testing.T) {
	m := api.Msg{
		ID: -1, Kind: api.MsgDelete, DN: "dc=c", Password: "p", Scope: 9, Limit: -3, Types: true,
		Filter: api.Filter{Kind: 99}, Attrs: []string{"\xff"}, Entry: of("x", at("y", "z")), Mods: []api.Mod{{Op: 7}},
		RDN: "dc=d", Above: "no name", Attr: "cn", Value: "v", Target: 5,
		Result: api.Result{Code: 1}, Controls: []api.Control{{OID: "1", Critical: true}},
	}
	makes(t, "other fields", all(), "", renaming(m), renamed("dc=c", domain("dc=d", at("dc", "c", "d"))))
}

// thing tells an entry of the class thing.
func thing(name string, more ...api.Attr) api.Entry {
	return of(name, append(more, at("objectclass", "thing"))...)
}

// ruled tells a schema whose type a is compared by this rule, and that has these types more.
func ruled(t *testing.T, rule int, more ...api.Type) *schema.Schema {
	t.Helper()
	types := append(more, api.Type{Name: "objectclass", Rule: api.RuleIgnore}, api.Type{Name: "a", Rule: rule})
	s, err := schema.New(types, []api.Class{{Name: "thing", May: []string{"a"}}})
	if err != api.OK {
		t.Fatalf("New: %d", err)
	}
	return s
}

// TestSchemas holds that mods are held against the schema that is handed in, and what comes of them against that of the tree.
func TestSchemas(t *testing.T) {
	exact, ignore, number := ruled(t, api.RuleExact), ruled(t, api.RuleIgnore, api.Type{Name: "b", Rule: api.RuleIgnore}), ruled(t, api.RuleInt)
	twice := mod(api.ModAdd, "a", "B")
	for _, c := range []struct {
		what    string
		tree, s *schema.Schema
		e       api.Entry
		m       api.Mod
		want    int
	}{
		{"both the same, exact", exact, exact, thing("a=b", at("a", "b")), twice, api.Success},
		{"both the same, not exact", ignore, ignore, thing("a=b", at("a", "b")), twice, api.AttrExists},
		{"twice by the one handed in", exact, ignore, thing("a=b", at("a", "b")), twice, api.AttrExists},
		{"twice by the tree's", ignore, exact, thing("a=b", at("a", "b")), twice, api.AttrExists},
		{"twice by the tree's, the name's value gone by the one handed in", ignore, exact, thing("a=b", at("a", "b")), mod(api.ModReplace, "a", "B", "c", "C"), api.OnRDN},
		{"the name's value gone by the one handed in", ignore, exact, thing("a=b", at("a", "b")), mod(api.ModReplace, "a", "B"), api.OnRDN},
		{"the name's value never there by the one handed in", ignore, exact, thing("a=b", at("a", "B")), mod(api.ModAdd, "a", "c"), api.OnRDN},
		{"the name's value gone by the tree's", exact, ignore, thing("a=b", at("a", "b")), mod(api.ModReplace, "a", "B"), api.Naming},
		{"no value by the tree's", number, ignore, thing("a=1", at("a", "1")), mod(api.ModAdd, "a", "x"), api.InvalidSyntax},
		{"no value by the one handed in", ignore, number, thing("a=1", at("a", "1")), mod(api.ModAdd, "a", "x"), api.InvalidSyntax},
		{"no type of the tree's", exact, ignore, thing("a=b", at("a", "b")), mod(api.ModAdd, "b", "x"), api.UndefinedType},
		{"no type of the one handed in", ignore, exact, thing("a=b", at("a", "b")), mod(api.ModAdd, "b", "x"), api.UndefinedType},
		{"no class has the type", ignore, ignore, thing("a=b", at("a", "b")), mod(api.ModAdd, "b", "x"), api.ClassViolation},
		{"the one handed in has no types", ignore, &schema.Schema{}, thing("a=b", at("a", "b")), twice, api.UndefinedType},
	} {
		d := dit.New(c.tree)
		put(t, d, c.e)
		do := func(d *dit.Tree, l []api.Rule, who string) ([]api.Change, int) {
			return Modify(d, c.s, l, who, c.e.DN, []api.Mod{c.m})
		}
		if c.want != api.Success {
			refuses(t, c.what, d, all(), "", do, c.want)
			continue
		}
		if got, code := do(d, all(), ""); code != c.want || len(got) != 1 {
			t.Errorf("%s: %s, %d", c.what, told(got), code)
		}
	}
	d := dit.New(ignore)
	put(t, d, thing("a=b", at("a", "b")))
	if got, code := Modify(d, &schema.Schema{}, nil, "", "a=b", nil); code != api.OnRDN || len(got) != 0 {
		t.Errorf("no mods, no types: %s, %d", told(got), code)
	}
}

// TestNil holds what is told of no tree, or no schema, ahead of all else, and of trees without either.
func TestNil(t *testing.T) {
	calls := map[string]call{
		"add": adding(was("dc=c")), "delete": deleting("dc=c"), "modify": modifying("dc=c"), "rename": renaming(to("dc=c", "dc=d")),
		"add no name": adding(of("dc")), "delete no name": deleting("dc"), "modify no name": modifying("dc"), "rename no name": renaming(to("dc", "dc=d")),
		"add nothing": adding(api.Entry{}), "delete nothing": deleting(""), "modify nothing": modifying(""), "rename nothing": renaming(api.Msg{}),
	}
	for what, do := range calls {
		for _, l := range [][]api.Rule{nil, all(), {{}}} {
			if got, code := do(nil, l, "cn=x"); code != api.Other || len(got) != 0 {
				t.Errorf("%s, no tree: %s, %d", what, told(got), code)
			}
		}
	}
	for _, name := range []string{"dc=c", "dc=z", "dc", ""} {
		for what, d := range map[string]*dit.Tree{"no schema": some(t), "neither": nil} {
			refuses(t, "modify "+name+", "+what, d, nil, "", func(d *dit.Tree, l []api.Rule, who string) ([]api.Change, int) {
				return Modify(d, nil, l, who, name, nil)
			}, api.Other)
		}
	}
	for what, d := range map[string]*dit.Tree{"New(nil)": dit.New(nil), "the zero tree": {}} {
		refuses(t, what+": add", d, all(), "", adding(was("dc=c")), api.Other)
		refuses(t, what+": add, no rules", d, nil, "", adding(was("dc=c")), api.Insufficient)
		refuses(t, what+": add, no name", d, all(), "", adding(of("dc")), api.InvalidDN)
		refuses(t, what+": delete", d, all(), "", deleting("dc=c"), api.NoObject)
		refuses(t, what+": modify", d, all(), "", modifying("dc=c"), api.NoObject)
		refuses(t, what+": rename", d, all(), "", renaming(to("dc=c", "dc=d")), api.NoObject)
	}
}

// TestEdges holds names of 32 and 33 parts, and of 4096 and 4097 bytes.
func TestEdges(t *testing.T) {
	d := dit.New(schema.Plain())
	for n := 1; n <= 31; n++ {
		put(t, d, domain(chain(n), at("dc", "a")))
	}
	put(t, d, unit("ou=p", at("ou", "p")), unit("ou=q,ou=p", at("ou", "q")))
	refuses(t, "33 parts of one below", d, all(), "", renaming(below(chain(31), to("ou=p", "ou=p"))), api.InvalidDN)
	refuses(t, "33 parts of one below, no rules for the new name", d, []api.Rule{may("ou=p", "*")}, "", renaming(below(chain(31), to("ou=p", "ou=p"))), api.InvalidDN)
	for what, do := range map[string]call{
		"rename": renaming(below(chain(31), to("ou=q,ou=p", "ou=q"))),
		"add":    adding(domain(chain(32), at("dc", "a"))),
		"modify": modifying(chain(32), mod(api.ModAdd, "o", "x")),
		"delete": deleting(chain(32)),
	} {
		k := d.Copy()
		if what == "modify" || what == "delete" {
			put(t, k, domain(chain(32), at("dc", "a")))
		}
		if got, code := do(k, all(), ""); code != api.Success || len(got) != 1 {
			t.Errorf("%s of 32 parts: %s, %d", what, told(got), code)
		}
	}

	above := ""
	for range 15 {
		value := strings.Repeat("w", 256)
		above = strings.TrimSuffix("dc="+value+","+above, ",")
		put(t, d, domain(above, at("dc", value)))
	}
	value := strings.Repeat("w", 4096-len(above)-len("ou=,"))
	name := "ou=" + value + "," + above
	refuses(t, "add, 4097 bytes", d, all(), "", adding(unit("ou=w"+name[3:], at("ou", "w"+value))), api.InvalidDN)
	refuses(t, "rename, 4097 bytes", d, all(), "", renaming(below(above, to("ou=q,ou=p", "ou=w"+value))), api.InvalidDN)
	refuses(t, "delete, 4097 bytes", d, all(), "", deleting("ou=w"+name[3:]), api.InvalidDN)
	refuses(t, "modify, 4097 bytes", d, all(), "", modifying("ou=w"+name[3:]), api.InvalidDN)
	for _, c := range []struct {
		what string
		do   call
		kind int
	}{
		{"add", adding(unit(name, at("ou", value))), api.ChangeAdd},
		{"modify", modifying(name, mod(api.ModAdd, "description", "x")), api.ChangeModify},
		{"delete", deleting(name), api.ChangeDelete},
		{"rename", renaming(below(above, to("ou=q,ou=p", "ou="+value))), api.ChangeRename},
	} {
		if got, code := c.do(d, all(), ""); code != api.Success || len(got) != 1 || got[0].Kind != c.kind {
			t.Errorf("%s, 4096 bytes: %s, %d", c.what, told(got), code)
		}
	}
}

// TestMods holds 64 mods, of as many rights as there are types.
func TestMods(t *testing.T) {
	makes(t, "64 mods", []api.Rule{may("dc=c", "o")}, "", modifying("dc=c", many(64)...), changed(domain("dc=c", at("dc", "c"), at("o", "x"))))
	l := make([]api.Mod, 64)
	for i := range l {
		l[i] = mod(api.ModReplace, []string{"o", "description", "O", "Description"}[i%4], strconv.Itoa(i))
	}
	want := changed(domain("dc=c", at("dc", "c"), at("o", "62"), at("description", "63")))
	makes(t, "64 mods of two attributes", []api.Rule{may("dc=c", "o"), may("dc=c", "description")}, "", modifying("dc=c", l...), want)
	refuses(t, "64 mods of two attributes, one right", some(t), []api.Rule{may("dc=c", "o")}, "", modifying("dc=c", l...), api.Insufficient)
}

// TestFull holds a tree with as many entries as may be, and as many rules.
func TestFull(t *testing.T) {
	d := tree(t, domain("dc=b", at("dc", "b")), domain("dc=c", at("dc", "c")))
	var l []api.Rule
	for i := range api.MaxEnts - 2 {
		s := strconv.Itoa(100000 + i)
		put(t, d, unit("ou="+s+",dc=b", at("ou", s)))
		if i < api.MaxRules-1 {
			l = append(l, by("cn=y", mayNot("ou="+s+",dc=b", "*")))
		}
	}
	l = append(l, may("", "*"))
	refuses(t, "add", d, l, "cn=x", adding(unit("ou=n,dc=c", at("ou", "n"))), api.Other)
	refuses(t, "add, what isn't such as it must be", d, l, "cn=x", adding(unit("ou=n,dc=c", at("ou", "m"))), api.Naming)
	refuses(t, "add, no rules", d, nil, "cn=x", adding(unit("ou=n,dc=c", at("ou", "n"))), api.Insufficient)
	refuses(t, "rename, one of all may not be", d, l, "cn=y", renaming(below("dc=c", to("dc=b", "dc=b"))), api.Insufficient)
	got, code := Rename(d, l, "cn=x", below("dc=c", to("dc=b", "dc=b")))
	if code != api.Success || len(got) != api.MaxEnts-1 || d.Len() != api.MaxEnts {
		t.Errorf("rename: %s, %d; %d entries", told(got), code, d.Len())
	}
	for i, c := range got {
		if _, ok := d.Get(c.Before.DN); ok || c.Kind != api.ChangeRename || c.N != 0 || c.Old != c.Before.DN || c.After.DN != strings.TrimSuffix(c.Old, "dc=b")+"dc=b,dc=c" {
			t.Fatalf("rename, change %d: %s", i, told(got[i:i+1]))
		}
	}
	if got, code := Delete(d, l, "cn=y", "ou=100000,dc=b,dc=c"); code != api.Success || len(got) != 1 {
		t.Errorf("delete: %s, %d", told(got), code)
	}
	if got, code := Add(d, l, "cn=y", unit("ou=n,dc=c", at("ou", "n"))); code != api.Success || len(got) != 1 || d.Len() != api.MaxEnts {
		t.Errorf("add: %s, %d; %d entries", told(got), code, d.Len())
	}
}

// copied tells e with memory of its own.
func copied(e api.Entry) api.Entry {
	var attrs []api.Attr
	for _, a := range e.Attrs {
		attrs = append(attrs, at(a.Type, slices.Clone(a.Values)...))
	}
	return of(e.DN, attrs...)
}

// spoil writes to all that e has, as far as its lists reach.
func spoil(e api.Entry) {
	for i, a := range e.Attrs[:cap(e.Attrs)] {
		for k := range a.Values[:cap(a.Values)] {
			a.Values[:cap(a.Values)][k] = "spoilt"
		}
		e.Attrs[:cap(e.Attrs)][i] = at("spoilt", "spoilt")
	}
}

// TestMemory holds that what is told is no part of the tree, nor one change of another one.
func TestMemory(t *testing.T) {
	for _, c := range made {
		d := some(t)
		got, _ := c.do(d, all(), "")
		then := state(d)
		for i := range got {
			var kept []api.Entry
			for _, o := range got {
				kept = append(kept, copied(o.Before), copied(o.After))
			}
			spoil(got[i].Before)
			kept[2*i] = got[i].Before
			for k, o := range got {
				if !isEntry(o.Before, kept[2*k]) || !isEntry(o.After, kept[2*k+1]) {
					t.Errorf("%s: change %d shares memory with %d", c.what, i, k)
				}
			}
		}
		for _, o := range got {
			spoil(o.After)
		}
		if !isState(state(d), then) {
			t.Errorf("%s: what is told is the tree's own", c.what)
		}
	}
}

// TestHandedIn holds that what is handed in is neither changed nor kept.
func TestHandedIn(t *testing.T) {
	d := some(t)
	l := []api.Rule{may("dc=b", "entry"), may("dc=b", "OU"), may("", "*")}
	rules := slices.Clone(l)
	e := unit(" OU=N, dc=b", at("OU", "n", "M", "l"), at("Description", "z", "a"))
	wasEntry := copied(e)
	if _, code := Add(d, l, "cn=x", e); code != api.Success || !isEntry(e, wasEntry) {
		t.Errorf("Add: %d, %q, not %q", code, e, wasEntry)
	}
	list := []api.Mod{mod(api.ModReplace, "OU", "z", "n", "a"), mod(api.ModAdd, "description", "y", "b"), mod(api.ModDelete, "ou", "Z")}
	var wasList []api.Mod
	for _, m := range list {
		wasList = append(wasList, mod(m.Op, m.Attr.Type, slices.Clone(m.Attr.Values)...))
	}
	_, code := Modify(d, schema.Plain(), l, "cn=x", "ou=n,dc=b", list)
	isSame := slices.EqualFunc(list, wasList, func(a, b api.Mod) bool {
		return a.Op == b.Op && a.Attr.Type == b.Attr.Type && slices.Equal(a.Attr.Values, b.Attr.Values)
	})
	if code != api.Success || !isSame {
		t.Errorf("Modify: %d, %v, not %v", code, list, wasList)
	}
	if !slices.Equal(l, rules) {
		t.Errorf("rules: %v, not %v", l, rules)
	}
	then := state(d)
	spoil(e)
	for _, m := range list {
		spoil(of("", m.Attr))
	}
	if !isState(state(d), then) {
		t.Errorf("what was handed in is the tree's own")
	}
}

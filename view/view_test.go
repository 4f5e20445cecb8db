package view

import (
	"math"
	"math/rand"
	"slices"
	"strconv"
	"strings"
	"testing"

	"bothy/api"
	"bothy/dn"
	"bothy/entry"
)

// give and take tell a rule that lets who read attr below a name, or doesn't.
func give(who, below, attr string) api.Rule {
	return api.Rule{Who: who, Below: below, Attr: attr, Right: api.Read, Allow: true}
}

func take(who, below, attr string) api.Rule {
	return api.Rule{Who: who, Below: below, Attr: attr, Right: api.Read}
}

// writing tells r for writing.
func writing(r api.Rule) api.Rule {
	r.Right = api.Write
	return r
}

// by tells a list of rules.
func by(l ...api.Rule) []api.Rule {
	return l
}

// open gives all to everybody.
var open = give("*", "", "*")

// at tells an attribute.
func at(name string, values ...string) api.Attr {
	return api.Attr{Type: name, Values: values}
}

// of tells an entry of this name, with attributes.
func of(name string, attrs ...api.Attr) api.Entry {
	return api.Entry{DN: name, Attrs: attrs}
}

// isEntry tells whether two entries are the same as they stand; lists that are empty are.
func isEntry(a, b api.Entry) bool {
	return a.DN == b.DN && slices.EqualFunc(a.Attrs, b.Attrs, func(x, y api.Attr) bool {
		return x.Type == y.Type && slices.Equal(x.Values, y.Values)
	})
}

// copied tells e in memory of its own.
func copied(e api.Entry) api.Entry {
	out := api.Entry{DN: e.DN}
	for _, a := range e.Attrs {
		out.Attrs = append(out.Attrs, at(a.Type, slices.Clone(a.Values)...))
	}
	return out
}

// row tells a normal name of n parts.
func row(n int) string {
	return strings.TrimSuffix(strings.Repeat("a=v,", n), ",")
}

// long tells a name of 16 parts that has size bytes, 4096 or 4097 of them: normal, if they aren't too many.
func long(size int) string {
	part := "a=" + strings.Repeat("v", 253)
	return strings.Repeat(part+",", 15) + part + strings.Repeat("v", size-(16*256-1))
}

// normal are names as they count.
func normal() []string {
	return []string{"", "dc=b", "cn=a,dc=b", "cn=al ko,ou=x,dc=b", "a=1+b=2,dc=b", `cn=a\,b,dc=b`, `cn=\00\7f`, "cn=*", "cn=\u00c4\xff", row(32), long(4096)}
}

// wrong are texts that are no names, or are not as they count.
func wrong() []string {
	return []string{
		"CN=a", "cn=A", " ", " cn=a", "cn=a ", "cn = a", "cn=a, dc=b", "cn=a  b", `cn=\61`, "b=1+a=1",
		"a", "=", "a=", "=a", ",", "+", `\`, "cn=a,", ",cn=a", "cn=a,,dc=b", "1=a", "*", "**", "\x00", "\xff", "entry", row(33), long(4097),
	}
}

// refused are lists of rules that may not be, though the first rule of each gives all.
func refused() map[string][]api.Rule {
	lists := map[string][]api.Rule{
		"257 rules":        slices.Repeat(by(open), 257),
		"5000 rules":       slices.Repeat(by(open), 5000),
		"the zero rule":    by(open, api.Rule{}),
		"no right":         by(open, api.Rule{Who: "*", Attr: "*", Allow: true}),
		"another right":    by(open, api.Rule{Who: "*", Attr: "*", Right: 3, Allow: true}),
		"a right below 0":  by(open, api.Rule{Who: "*", Attr: "*", Right: -1, Allow: true}),
		"the least right":  by(open, api.Rule{Who: "*", Attr: "*", Right: math.MinInt, Allow: true}),
		"a type of none":   by(open, give("*", "", "")),
		"what is no type":  by(open, give("*", "", "1a")),
		"a type too long":  by(open, give("*", "", strings.Repeat("a", 65))),
		"a wrong write":    by(open, writing(give("*", "", "a b"))),
		"below all":        by(open, give("*", "*", "cn")),
		"for somebody odd": by(open, give("anonymous", "", "cn")),
	}
	for _, s := range wrong() {
		if s != "*" {
			lists["for the wrong name "+strconv.Quote(s)] = by(open, give(s, "", "cn"))
		}
		lists["below the wrong name "+strconv.Quote(s)] = by(open, give("*", s, "cn"))
	}
	return lists
}

// check sees that all calls tell of the entry at a name whether it is seen.
func check(t *testing.T, what string, l []api.Rule, who, name string, want bool) {
	t.Helper()
	if got := Seen(l, who, name); got != want {
		t.Errorf("Seen, %.80s: %t", what, got)
	}
	old, e := "", api.Entry{}
	if want {
		old, e.DN = name, name
	}
	if got := Old(l, who, name); got != old {
		t.Errorf("Old, %.80s: %.80q", what, got)
	}
	// Attributes may be read or not, here; the name doesn't hang on them.
	if got, ok := Entry(l, who, of(name, at("cn", "a"), at("sn", "b"))); ok != want || got.DN != e.DN || !ok && got.Attrs != nil {
		t.Errorf("Entry, %.80s: %.80q, %t", what, got, ok)
	}
	if got, ok := Entry(l, who, of(name)); ok != want || !isEntry(got, e) {
		t.Errorf("Entry without attributes, %.80s: %.80q, %t", what, got, ok)
	}
}

func TestSeen(t *testing.T) {
	l := by(
		take("cn=a", "ou=x,dc=b", "entry"),
		give("", "dc=c", "Entry"),
		give("cn=a", "dc=b", "ENTRY"),
		writing(give("*", "dc=w", "*")),
		take("*", "ou=y,dc=b", "*"),
		give("cn=z,dc=b", "", "*"),
		give("*", "dc=b", "cn"),
		give("*", "ou=y,dc=b", "entry"),
	)
	for _, c := range []struct {
		who, at string
		want    bool
	}{
		{"cn=a", "dc=b", true},
		{"cn=a", "cn=q,dc=b", true},
		{"cn=a", "ou=x,dc=b", false},
		{"cn=a", "cn=q,ou=x,dc=b", false},
		{"cn=a", "ou=xx,dc=b", true},
		{"cn=a", "ou=y,dc=b", true},
		{"cn=a", "dc=c", false},
		{"cn=a", "dc=bb", false},
		{"cn=a", "", false},
		{"CN=a", "dc=b", false},
		{"cn=a,dc=b", "dc=b", false},
		{"", "dc=b", false},
		{"*", "dc=b", false},
		{"", "dc=c", true},
		{"", "cn=q,dc=c", true},
		{"*", "dc=c", false},
		{"cn=z,dc=b", "dc=c", true},
		{"cn=z,dc=b", "", true},
		{"cn=z,dc=b", "dc=w", true},
		{"cn=z,dc=b", "ou=x,dc=b", true},
		{"cn=z,dc=b", "ou=y,dc=b", false},
		{"cn=q", "ou=y,dc=b", false},
		{"cn=a", "dc=w", false},
		{"", "dc=w", false},
	} {
		check(t, c.who+" at "+c.at, l, c.who, c.at, c.want)
	}
}

func TestNoRules(t *testing.T) {
	for _, name := range append(normal(), wrong()...) {
		check(t, "no rules", nil, "cn=a", name, false)
		check(t, "no rules", []api.Rule{}, "", name, false)
	}
}

func TestRefused(t *testing.T) {
	for what, l := range refused() {
		for _, name := range []string{"", "dc=b"} {
			check(t, what, l, "cn=a", name, false)
		}
	}
	check(t, "256 rules", slices.Repeat(by(open), 256), "cn=a", "dc=b", true)
	check(t, "the last one of 256", append(slices.Repeat(by(take("*", "", "cn")), 255), open), "cn=a", "dc=b", true)
}

// What is no name as it counts is not seen, whatever the rules give.
func TestNames(t *testing.T) {
	for _, name := range normal() {
		check(t, "a normal name", by(open), "cn=a", name, true)
		check(t, "below itself", by(give("*", name, "entry")), "", name, true)
	}
	for _, name := range wrong() {
		check(t, "no normal name", by(open), "cn=a", name, false)
		check(t, "no normal name", by(give("*", "", "entry")), name, name, false)
	}
	// Whoever asks may have any name.
	for _, who := range append(normal(), wrong()...) {
		check(t, "whoever it is", by(open), who, "dc=b", true)
	}
}

// person is an entry that is not clean.
var person = of("cn=a,dc=b",
	at("sn", "s", "t", "s"), at("objectClass", "top", "Person"), at("CN", "b", "a"), at("o"), at("uid", ""),
	at("cn", "c", "a"), at("Entry", "e"), at("*", "star"), at("", "none"), at("no type", "x"), at("Sn", "u"))

// of person are these attributes, as they are told.
var (
	none   = at("", "none")
	star   = at("*", "star")
	cn     = at("cn", "b", "a", "c")
	own    = at("entry", "e")
	noType = at("no type", "x")
	class  = at("objectclass", "top", "Person")
	sn     = at("sn", "s", "t", "u")
	uid    = at("uid", "")
)

func TestEntry(t *testing.T) {
	for _, c := range []struct {
		what string
		l    []api.Rule
		who  string
		want []api.Attr
	}{
		{"all", by(open), "", []api.Attr{none, star, cn, own, noType, class, sn, uid}},
		{"all, each by its own rule", by(give("*", "", "uid"), give("*", "", "sn"), give("*", "", "objectclass"), give("*", "", "entry"), give("*", "", "cn")), "", []api.Attr{cn, own, class, sn, uid}},
		{"the entry alone", by(give("*", "", "entry")), "", []api.Attr{own}},
		{"one", by(give("*", "", "entry"), give("*", "", "cn")), "", []api.Attr{cn, own}},
		{"one, in great letters", by(give("*", "", "ENTRY"), give("*", "", "CN")), "", []api.Attr{cn, own}},
		{"one, whose rule is ahead", by(give("*", "", "OBJECTCLASS"), give("*", "", "entry")), "", []api.Attr{own, class}},
		{"all but one", by(take("*", "", "Sn"), open), "", []api.Attr{none, star, cn, own, noType, class, uid}},
		{"all but the first and the last", by(take("*", "", "uid"), take("*", "", "CN"), open), "", []api.Attr{none, star, own, noType, class, sn}},
		{"all but one, told behind", by(open, take("*", "", "sn")), "", []api.Attr{none, star, cn, own, noType, class, sn, uid}},
		{"given, then taken", by(give("*", "", "sn"), take("*", "", "sn"), give("*", "", "entry")), "", []api.Attr{own, sn}},
		{"taken, then given", by(take("*", "", "sn"), give("*", "", "sn"), give("*", "", "entry")), "", []api.Attr{own}},
		{"nothing behind a rule that takes all", by(give("*", "", "entry"), give("*", "", "cn"), take("*", "", "*"), open), "", []api.Attr{cn, own}},
		{"what isn't there", by(give("*", "", "entry"), give("*", "", "o"), give("*", "", "mail")), "", []api.Attr{own}},
		{"for another one", by(take("cn=b", "", "sn"), give("cn=b", "", "cn"), give("*", "", "entry"), give("*", "", "sn")), "cn=a", []api.Attr{own, sn}},
		{"for that one", by(take("cn=b", "", "sn"), give("cn=b", "", "cn"), give("*", "", "entry"), give("*", "", "sn")), "cn=b", []api.Attr{cn, own}},
		{"for nobody in particular", by(give("", "", "entry"), give("", "", "cn"), give("cn=a", "", "sn")), "", []api.Attr{cn, own}},
		{"for that one's below", by(give("dc=b", "", "cn"), give("*", "", "entry")), "cn=a,dc=b", []api.Attr{own}},
		{"at another name", by(give("*", "", "entry"), take("*", "dc=c", "*"), take("*", "cn=b,dc=b", "*"), take("*", "cn=q,cn=a,dc=b", "*"), give("*", "dc=b", "cn")), "", []api.Attr{cn, own}},
		{"at that name", by(give("*", "", "entry"), take("*", "cn=a,dc=b", "cn"), give("*", "dc=b", "cn"), give("*", "cn=a,dc=b", "sn")), "", []api.Attr{own, sn}},
		{"above it", by(give("*", "dc=b", "entry"), take("*", "dc=b", "cn"), open), "", []api.Attr{none, star, own, noType, class, sn, uid}},
		{"below a name that is written likewise", by(give("*", "", "entry"), give("*", `x=cn\=a\,dc\=b`, "cn")), "", []api.Attr{own}},
		{"writing gives nothing", by(give("*", "", "entry"), writing(give("*", "", "*")), give("*", "", "cn")), "", []api.Attr{cn, own}},
		{"writing takes nothing", by(writing(take("*", "", "*")), give("*", "", "entry"), writing(take("*", "", "cn")), give("*", "", "cn")), "", []api.Attr{cn, own}},
		{"whoever is written as all are", by(give("*", "", "entry"), give("cn=a", "", "cn"), give("*", "", "sn")), "*", []api.Attr{own, sn}},
	} {
		got, ok := Entry(c.l, c.who, person)
		if !ok || !isEntry(got, of(person.DN, c.want...)) {
			t.Errorf("Entry, %s: %q, %t", c.what, got, ok)
		}
	}
}

func TestEntryUnseen(t *testing.T) {
	for what, l := range map[string][]api.Rule{
		"nothing":                nil,
		"all but it":             by(take("*", "", "entry"), open),
		"all but it, there":      by(take("*", "cn=a,dc=b", "ENTRY"), open),
		"attributes alone":       by(give("*", "", "cn"), give("*", "", "sn")),
		"writing alone":          by(writing(give("*", "", "*"))),
		"another one's":          by(give("cn=b", "", "*")),
		"another name's":         by(give("*", "dc=c", "*")),
		"given behind what took": by(take("*", "", "*"), give("*", "", "entry"), open),
	} {
		got, ok := Entry(l, "cn=a", person)
		if ok || got.DN != "" || got.Attrs != nil {
			t.Errorf("Entry, %s: %q, %t", what, got, ok)
		}
	}
}

// TestEntryClean holds that what is seen whole is told clean.
func TestEntryClean(t *testing.T) {
	for _, e := range []api.Entry{
		{}, of("dc=b"), {DN: "dc=b", Attrs: []api.Attr{}}, of("dc=b", at("cn")), of("dc=b", api.Attr{Type: "cn", Values: []string{}}),
		of("dc=b", at("Z", "1"), at("a", "2"), at("B", "3"), at("\xff", "4"), at("\u00c4A", "5"), at("", "6")),
		of("dc=b", at("cn", "b", "a", "b"), at("CN", "A", "a", " a"), at("Cn"), at("cN", "\xff", "\xfe", "\x00", "")),
		of("", at(strings.Repeat("A", 1<<16), strings.Repeat("v", 1<<16)), at(strings.Repeat("a", 1<<16), "w")),
	} {
		if got, ok := Entry(by(open), "", e); !ok || !isEntry(got, entry.Clean(e)) {
			t.Errorf("Entry: %.200q, %t", got, ok)
		}
	}
}

// TestTwoEntries holds that entries which differ in what may not be read alone are told the same.
func TestTwoEntries(t *testing.T) {
	l := by(give("*", "", "entry"), take("*", "", "sn"), take("*", "ou=x", "*"), give("*", "", "cn"))
	want := of("cn=a", at("cn", "b"))
	for _, e := range []api.Entry{
		of("cn=a", at("cn", "b")),
		of("cn=a", at("sn", "1"), at("cn", "b")),
		of("cn=a", at("cn", "b"), at("SN", "1", "2"), at("uid", "3")),
		of("cn=a", at("a", "1"), at("cn", "b"), at("z", "1")),
	} {
		if got, ok := Entry(l, "", e); !ok || !isEntry(got, want) {
			t.Errorf("Entry of %q: %q, %t", e, got, ok)
		}
		e.DN = "cn=a,ou=x"
		if got, ok := Entry(by(take("*", "ou=x", "entry"), open), "", e); ok || !isEntry(got, api.Entry{}) {
			t.Errorf("Entry of %q, unseen: %q, %t", e, got, ok)
		}
	}
}

// slowNormal tells whether s is normal.
func slowNormal(s string) bool {
	norm, err := dn.Norm(s)
	return err == api.OK && norm == s
}

// slowUnder tells whether name stands below base, part by part.
func slowUnder(name, base string) bool {
	if !slowNormal(name) || !slowNormal(base) {
		return false
	}
	a, _ := dn.Read(name)
	b, _ := dn.Read(base)
	return len(a) >= len(b) && slices.EqualFunc(a[len(a)-len(b):], b, slices.Equal[api.RDN])
}

// slowReads tells whether who may read attr at name: by the first rule that says it, of a list that is not refused.
func slowReads(l []api.Rule, who, name, attr string) bool {
	if len(l) > 256 {
		return false
	}
	first := -1
	for i, r := range l {
		if r.Who != "*" && !slowNormal(r.Who) || !slowNormal(r.Below) || r.Attr == "" || r.Right != 1 && r.Right != 2 {
			return false
		}
		if first < 0 && r.Right == 1 && (r.Who == "*" || r.Who == who) && slowUnder(name, r.Below) &&
			(r.Attr == "*" || strings.ToLower(r.Attr) == strings.ToLower(attr)) {
			first = i
		}
	}
	return first >= 0 && l[first].Allow
}

// slowEntry tells what Entry should, attribute by attribute, as the chapter says it.
func slowEntry(l []api.Rule, who string, e api.Entry) (api.Entry, bool) {
	if !slowReads(l, who, e.DN, "entry") {
		return api.Entry{}, false
	}
	out := api.Entry{DN: e.DN}
	for _, a := range entry.Clean(e).Attrs {
		if slowReads(l, who, e.DN, a.Type) {
			out.Attrs = append(out.Attrs, a)
		}
	}
	return out, true
}

// Pools that rules, and what is asked of them, are made of; the last ones of each are wrong.
var (
	whos   = []string{"*", "", "cn=a", "cn=a,dc=b", "dc=b", "CN=a"}
	belows = []string{"", "dc=b", "cn=a,dc=b", "cn=q,cn=a,dc=b", `cn=a\,dc\=b`, "DC=b"}
	attrs  = []string{"*", "entry", "Entry", "cn", "CN", "sn", ""}
	acts   = []int{1, 1, 1, 2, 0}
)

// hold holds what all three tell against the slow ones, and sees that all that is handed in stays as it is.
func hold(t *testing.T, l []api.Rule, who string, e api.Entry) {
	t.Helper()
	was, list := copied(e), slices.Clone(l)
	want, seen := slowEntry(list, who, was)
	if got := Seen(l, who, e.DN); got != seen {
		t.Fatalf("Seen of %+v, %q, %q: %t", list, who, e.DN, got)
	}
	if got := Old(l, who, e.DN); got != want.DN {
		t.Fatalf("Old of %+v, %q, %q: %q", list, who, e.DN, got)
	}
	if got, ok := Entry(l, who, e); ok != seen || !isEntry(got, want) {
		t.Fatalf("Entry of %+v, %q, %q: %q, %t", list, who, was, got, ok)
	}
	if !slices.Equal(l, list) || !isEntry(e, was) {
		t.Fatalf("%+v, %q became %+v, %q", list, was, l, e)
	}
}

// Each rule of the pools, alone, and behind and ahead of one that says something of all.
func TestEachRule(t *testing.T) {
	e := of("", at("SN", "1"), at("cn", "2"), at("o", "3"), at("CN", "4"), at("Entry", "5"), at("*", "6"), at("", "7"))
	var rules []api.Rule
	for _, who := range whos {
		for _, below := range belows {
			for _, attr := range attrs {
				for _, act := range acts[2:] {
					rules = append(rules, api.Rule{Who: who, Below: below, Attr: attr, Right: act, Allow: true}, api.Rule{Who: who, Below: below, Attr: attr, Right: act})
				}
			}
		}
	}
	for _, r := range rules {
		for _, who := range whos {
			for _, e.DN = range belows {
				hold(t, by(r), who, e)
				hold(t, by(r, open), who, e)
				hold(t, by(give("*", "", "entry"), r), who, e)
			}
		}
	}
}

// pick tells one of list, seldom the last one.
func pick[T any](r *rand.Rand, list []T) T {
	if r.Intn(50) == 0 {
		return list[len(list)-1]
	}
	return list[r.Intn(len(list)-1)]
}

// Lists of rules, and entries, out of the pools.
func TestLists(t *testing.T) {
	r := rand.New(rand.NewSource(17))
	types := []string{"cn", "CN", "sn", "Sn", "o", "entry", "*", "no type", ""}
	for range 20000 {
		l := make([]api.Rule, r.Intn(10))
		for i := range l {
			l[i] = api.Rule{Who: pick(r, whos), Below: pick(r, belows), Attr: pick(r, attrs), Right: pick(r, acts), Allow: r.Intn(2) == 0}
		}
		e := of(pick(r, belows))
		for range r.Intn(7) {
			a := at(pick(r, types))
			for range r.Intn(4) {
				a.Values = append(a.Values, strconv.Itoa(r.Intn(4)))
			}
			e.Attrs = append(e.Attrs, a)
		}
		hold(t, l, pick(r, whos), e)
	}
}

// spoil writes to all that e has, and behind it as far as its lists reach.
func spoil(e api.Entry) {
	attrs := e.Attrs[:cap(e.Attrs)]
	for i, a := range attrs {
		for k := range a.Values[:cap(a.Values)] {
			a.Values[:cap(a.Values)][k] = "spoilt"
		}
		attrs[i] = at("spoilt", "spoilt")
	}
}

// roomy tells e with lists that have room behind what stands in them.
func roomy(e api.Entry) api.Entry {
	out := api.Entry{DN: e.DN, Attrs: make([]api.Attr, 0, 20)}
	for _, a := range e.Attrs {
		out.Attrs = append(out.Attrs, at(a.Type, append(make([]string, 0, 8), a.Values...)...))
	}
	return out
}

// TestMemory holds that what is handed in stays as it is, and that answers have memory of their own.
func TestMemory(t *testing.T) {
	clean := entry.Clean(person)
	for _, source := range []api.Entry{person, clean, of("cn=a,dc=b", cn)} {
		for _, l := range [][]api.Rule{by(open), by(take("*", "", "cn"), take("*", "", "sn"), open), by(give("*", "", "entry"), give("*", "", "sn")), by(give("*", "", "entry"))} {
			l = append(make([]api.Rule, 0, 8), l...)
			rules, e := slices.Clone(l[:8]), roomy(source)
			was := copied(e)
			got, _ := Entry(l, "cn=a", e)
			told := copied(got)
			spoil(got)
			if !isEntry(e, was) || !slices.Equal(l[:8], rules) {
				t.Errorf("Entry changed %q, %+v", e, l[:8])
			}
			if behind := e.Attrs[:cap(e.Attrs)][len(e.Attrs)]; behind.Type != "" || behind.Values != nil {
				t.Errorf("Entry wrote behind attributes: %q", behind)
			}
			got, _ = Entry(l, "cn=a", e)
			if !isEntry(got, told) {
				t.Errorf("Entry again: %q, not %q", got, told)
			}
			spoil(e)
			clear(l)
			if !isEntry(got, told) {
				t.Errorf("Entry keeps what it is handed: %q, not %q", got, told)
			}
		}
	}
}

// TestGreatest goes over rules whose parts are as great as they may be, and many attributes: of all rules' names gone over for each attribute it would wait long.
func TestGreatest(t *testing.T) {
	name := long(4096)
	e := of(name)
	for i := range 2000 {
		e.Attrs = append(e.Attrs, at("A"+strconv.Itoa(i), "v"))
	}
	l := by(give(name, name, "entry"))
	for i := range 254 {
		l = append(l, take(name, name, "a"+strconv.Itoa(i)))
	}
	l = append(l, give(name, name, "*"))
	got, ok := Entry(l, name, e)
	if !ok || got.DN != name || len(got.Attrs) != 2000-254 {
		t.Errorf("Entry: %d attributes, %t", len(got.Attrs), ok)
	}
	for _, a := range got.Attrs {
		if i, err := strconv.Atoi(a.Type[1:]); err != nil || i < 254 {
			t.Errorf("Entry tells %q", a.Type)
		}
	}
	if got, ok := Entry(l, long(4096)[256:], e); ok || !isEntry(got, api.Entry{}) {
		t.Errorf("Entry for somebody else: %d attributes, %t", len(got.Attrs), ok)
	}
}

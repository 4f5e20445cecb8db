package find

import (
	"math/rand"
	"slices"
	"strings"
	"testing"

	"bothy/api"
	"bothy/dit"
	"bothy/filter"
	"bothy/schema"
)

// fold tells a value as it counts.
func fold(s string) string { return strings.Join(strings.Fields(strings.ToLower(s)), " ") }

// isBelow tells whether a name whose values have no commas is another one, or below it.
func isBelow(name, other string) bool {
	return name == other || other == "" || strings.HasSuffix(name, ","+other)
}

// slowMay tells whether who may read an attribute, as the words of rules have it; rules are all such as may be.
func slowMay(l []api.Rule, who, name, attr string) bool {
	for _, r := range l {
		isAttr := r.Attr == "*" || strings.EqualFold(r.Attr, attr)
		if r.Right == api.Read && (r.Who == "*" || r.Who == who) && isAttr && isBelow(name, r.Below) {
			return r.Allow
		}
	}
	return false
}

// slowIs tells whether e is what f asks for: true and false alone, and 2 of what can't be told. All values count by their letters and blanks.
func slowIs(e api.Entry, f api.Filter) int {
	switch f.Kind {
	case api.FilterNot:
		return []int{1, 0, 2}[slowIs(e, f.List[0])]
	case api.FilterAnd, api.FilterOr:
		// What settles it is false of an and, true of an or.
		settles := map[int]int{api.FilterAnd: 0, api.FilterOr: 1}[f.Kind]
		out := 1 - settles
		for _, g := range f.List {
			switch slowIs(e, g) {
			case settles:
				return settles
			case 2:
				out = 2
			}
		}
		return out
	}
	if f.Attr == "zz" || f.Kind == api.FilterEqual && fold(f.Value) == "" {
		return 2
	}
	for _, a := range e.Attrs {
		if a.Type != strings.ToLower(f.Attr) {
			continue
		}
		if f.Kind == api.FilterPresent || slices.ContainsFunc(a.Values, func(v string) bool { return fold(v) == fold(f.Value) }) {
			return 1
		}
	}
	return 0
}

// slowIn tells whether a name is in a scope.
func slowIn(name, base string, scope int) bool {
	deeper := strings.Count(name, ",") - strings.Count(base, ",")
	if base == "" {
		deeper++
	}
	return isBelow(name, base) && (scope == api.ScopeBase && deeper == 0 || scope == api.ScopeOne && deeper == 1 || scope == api.ScopeSub)
}

// slowView tells those attributes of e that who may read.
func slowView(l []api.Rule, who string, e api.Entry) api.Entry {
	out := of(e.DN)
	for _, a := range e.Attrs {
		if slowMay(l, who, e.DN, a.Type) {
			out.Attrs = append(out.Attrs, a)
		}
	}
	return out
}

// slowList tells what List tells, as the chapter's words have it; base is the name that counts as the message's, "!" of none.
func slowList(d *dit.Tree, l []api.Rule, who, base string, m api.Msg) ([]api.Entry, int) {
	if base == "!" {
		return nil, api.InvalidDN
	}
	if _, ok := d.Get(base); base != "" && (!ok || !slowMay(l, who, base, "entry")) {
		return nil, api.NoObject
	}
	if filter.Check(m.Filter) != api.OK {
		return nil, api.ProtocolError
	}
	var list []api.Entry
	for _, e := range state(d) {
		if !slowIn(e.DN, base, m.Scope) || !slowMay(l, who, e.DN, "entry") {
			continue
		}
		e = slowView(l, who, e)
		if slowIs(e, m.Filter) != 1 {
			continue
		}
		if m.Limit > 0 && len(list) == m.Limit {
			return list, api.SizeLimit
		}
		list = append(list, slowSelect(e, m))
	}
	return list, api.Success
}

// slowSelect tells what of e is asked for.
func slowSelect(e api.Entry, m api.Msg) api.Entry {
	out := of(e.DN)
	for _, a := range e.Attrs {
		isAsked := func(s string) bool { return s == "*" || strings.ToLower(s) == a.Type }
		if len(m.Attrs) > 0 && !slices.ContainsFunc(m.Attrs, isAsked) {
			continue
		}
		if m.Types {
			a.Values = nil
		}
		out.Attrs = append(out.Attrs, a)
	}
	return out
}

// slowCompare tells what Compare tells, likewise.
func slowCompare(d *dit.Tree, l []api.Rule, who, base string, m api.Msg) int {
	if base == "!" {
		return api.InvalidDN
	}
	e, ok := d.Get(base)
	if !ok || !slowMay(l, who, base, "entry") {
		return api.NoObject
	}
	kind := strings.ToLower(m.Attr)
	if !slices.Contains(schema.Plain().Types(), kind) {
		return api.UndefinedType
	}
	i := slices.IndexFunc(slowView(l, who, e).Attrs, func(a api.Attr) bool { return a.Type == kind })
	if i < 0 {
		return api.NoAttribute
	}
	code := api.CompareFalse
	for _, v := range slowView(l, who, e).Attrs[i].Values {
		if fold(v) == fold(m.Value) {
			code = api.CompareTrue
		}
	}
	if fold(m.Value) == "" {
		return api.InvalidSyntax
	}
	return code
}

// one tells one of list, by chance.
func one[T any](r *rand.Rand, list ...T) T { return list[r.Intn(len(list))] }

// grow adds an entry to d, by chance.
func grow(r *rand.Rand, d *dit.Tree) {
	kind, value := one(r, "dc", "ou"), one(r, "a", "b", "c", "a b")
	above := one(r, append(d.Names(), "", "")...)
	e := of(strings.TrimSuffix(kind+"="+value+","+above, ","), at(kind, one(r, value, strings.ToUpper(value), " "+value)))
	e.Attrs = append(e.Attrs, at("objectclass", map[string]string{"dc": "Domain", "ou": "organizationalUnit"}[kind]))
	for _, v := range []string{"a", "B", "x  y"} {
		if r.Intn(3) == 0 {
			e.Attrs = append(e.Attrs, at("description", v))
			break
		}
	}
	d.Add(e)
}

// rulesOf tells rules, by chance, most of which give more than they take.
func rulesOf(r *rand.Rand, d *dit.Tree) []api.Rule {
	var l []api.Rule
	for range r.Intn(5) {
		l = append(l, api.Rule{
			Who: one(r, "*", "cn=x", "cn=y", ""), Below: one(r, append(d.Names(), "", "dc=z")...),
			Attr:  one(r, "*", "entry", "Entry", "dc", "OU", "description", "objectclass"),
			Right: one(r, api.Read, api.Read, api.Read, api.Write), Allow: r.Intn(3) == 0,
		})
	}
	if r.Intn(5) > 0 {
		l = append(l, may("", "*"))
	}
	return l
}

// filterOf tells a filter, by chance, of at most so many levels more.
func filterOf(r *rand.Rand, levels int) api.Filter {
	if levels > 0 {
		switch r.Intn(4) {
		case 0:
			return filter.Not(filterOf(r, levels-1))
		case 1, 2:
			var list []api.Filter
			for range r.Intn(4) {
				list = append(list, filterOf(r, levels-1))
			}
			return one(r, filter.And, filter.Or)(list...)
		}
	}
	attr := one(r, "dc", "OU", "description", "objectClass", "cn", "zz", "dc", "ou", "")
	if attr == "" && r.Intn(4) > 0 {
		attr = "description"
	}
	if r.Intn(2) == 0 {
		return has(attr)
	}
	return is(attr, one(r, "a", "A ", "b", "x y", "domain", ""))
}

// nameOf tells a text of a name, mostly of one that is there, and that name as it counts, "!" of none.
func nameOf(r *rand.Rand, d *dit.Tree) (string, string) {
	switch r.Intn(16) {
	case 0:
		return one(r, "dc", ",", "dc=a,,dc=b", "\xff", " "), "!"
	case 1:
		return "DC=Z , dc=a", "dc=z,dc=a"
	case 2, 3:
		return "", ""
	}
	name := one(r, d.Names()...)
	return one(r, name, strings.ToUpper(name), strings.ReplaceAll(name, ",", " , ")), name
}

// TestChance holds searches and compares by chance against the chapter's words.
func TestChance(t *testing.T) {
	codes := map[int]int{}
	sizes := map[int]int{}
	for seed := range int64(120) {
		r := rand.New(rand.NewSource(seed))
		d := tree(t, domain("dc=a", at("dc", "a")))
		for range 30 {
			grow(r, d)
		}
		for step := range 60 {
			l, who := rulesOf(r, d), one(r, "cn=x", "cn=y", "", "cn=z")
			text, name := nameOf(r, d)
			m := api.Msg{
				DN: text, Scope: one(r, api.ScopeBase, api.ScopeOne, api.ScopeSub, api.ScopeSub, 3), Limit: r.Intn(8) - 1, Types: r.Intn(3) == 0,
				Filter: filterOf(r, 3), Attrs: one(r, nil, []string{"DC", "ou"}, []string{"description"}, []string{"zz"}, []string{"dc", "*"}),
				Attr: one(r, "dc", "OU", "description", "objectClass", "cn", "zz"), Value: one(r, "a", " A", "b", "domain", "", " "),
			}
			want, code := slowList(d, l, who, name, m)
			got, listed := List(d, schema.Plain(), l, who, m)
			if listed != code || !isList(got, want) {
				t.Fatalf("%d, step %d: %v %q: List of %+v: %s, %d, not %s, %d", seed, step, l, who, m, told(got), listed, told(want), code)
			}
			codes[code]++
			sizes[min(len(got), 4)]++
			truth := slowCompare(d, l, who, name, m)
			if compared := Compare(d, schema.Plain(), l, who, m); compared != truth {
				t.Fatalf("%d, step %d: %v %q: Compare of %+v: %d, not %d", seed, step, l, who, m, compared, truth)
			}
			codes[1000+truth]++
		}
	}
	for _, code := range []int{
		api.Success, api.SizeLimit, api.InvalidDN, api.NoObject, api.ProtocolError,
		1000 + api.InvalidDN, 1000 + api.NoObject, 1000 + api.UndefinedType, 1000 + api.NoAttribute, 1000 + api.CompareTrue, 1000 + api.CompareFalse, 1000 + api.InvalidSyntax,
	} {
		if codes[code] < 60 {
			t.Errorf("code %d has come %d times", code, codes[code])
		}
	}
	for size := range 5 {
		if sizes[size] < 60 {
			t.Errorf("%d entries have come %d times", size, sizes[size])
		}
	}
}

// TestScopes holds names of a few parts against one another in each scope, by their parts.
func TestScopes(t *testing.T) {
	names := []string{""}
	for low, high := 0, 1; high < 1+3+9+27; {
		for _, above := range names[low:high] {
			for _, own := range []string{"dc=a", "dc=b", "c=a"} {
				names = append(names, strings.TrimSuffix(own+","+above, ","))
			}
		}
		low, high = high, len(names)
	}
	for _, name := range names {
		for _, base := range names {
			for scope := -1; scope <= 3; scope++ {
				want := slowIn(name, base, scope)
				if name == "" {
					want = base == "" && (scope == api.ScopeBase || scope == api.ScopeSub)
				}
				if got := In(name, base, scope); got != want {
					t.Fatalf("In(%q, %q, %d): %v", name, base, scope, got)
				}
			}
		}
	}
}

package write

import (
	"math/rand"
	"slices"
	"strings"
	"testing"

	"bothy/api"
	"bothy/dit"
	"bothy/mods"
	"bothy/rename"
	"bothy/schema"
)

// isBelow tells whether a name whose values have no commas is another one, or below it.
func isBelow(name, other string) bool {
	return name == other || other == "" || strings.HasSuffix(name, ","+other)
}

// slowMay tells whether who may write these attributes, as the words of rules have it; rules are all such as may be.
func slowMay(l []api.Rule, who, name string, attrs ...string) bool {
	for _, attr := range attrs {
		i := slices.IndexFunc(l, func(r api.Rule) bool {
			isAttr := r.Attr == "*" || strings.EqualFold(r.Attr, attr)
			return r.Right == api.Write && (r.Who == "*" || r.Who == who) && isAttr && isBelow(name, r.Below)
		})
		if i < 0 || !l[i].Allow {
			return false
		}
	}
	return true
}

// slowAdd makes on d what Add makes, as the chapter's words have it; name is the one that counts as the entry's, "!" of none.
func slowAdd(d *dit.Tree, l []api.Rule, who, name string, e api.Entry) ([]api.Change, int) {
	if name == "!" {
		return nil, api.InvalidDN
	}
	for _, a := range e.Attrs {
		if !slowMay(l, who, name, a.Type) {
			return nil, api.Insufficient
		}
	}
	if !slowMay(l, who, name, "entry") {
		return nil, api.Insufficient
	}
	e.DN = name
	if code := d.Add(e); code != api.Success {
		return nil, code
	}
	after, _ := d.Get(name)
	return []api.Change{{Kind: api.ChangeAdd, After: after}}, api.Success
}

// slowDelete makes on d what Delete makes, likewise.
func slowDelete(d *dit.Tree, l []api.Rule, who, name string) ([]api.Change, int) {
	if name == "!" {
		return nil, api.InvalidDN
	}
	if !slowMay(l, who, name, "entry") {
		return nil, api.Insufficient
	}
	before, _ := d.Get(name)
	if code := d.Delete(name); code != api.Success {
		return nil, code
	}
	return []api.Change{{Kind: api.ChangeDelete, Before: before}}, api.Success
}

// slowModify makes on d what Modify makes, likewise.
func slowModify(d *dit.Tree, l []api.Rule, who, name string, list []api.Mod) ([]api.Change, int) {
	if name == "!" {
		return nil, api.InvalidDN
	}
	before, ok := d.Get(name)
	if !ok {
		return nil, api.NoObject
	}
	for _, m := range list {
		if !slowMay(l, who, name, m.Attr.Type) {
			return nil, api.Insufficient
		}
	}
	after, code := mods.Apply(schema.Plain(), before, list)
	if code != api.Success {
		return nil, code
	}
	if mods.Naming(schema.Plain(), after) != api.Success {
		return nil, api.OnRDN
	}
	if code := d.Replace(after); code != api.Success {
		return nil, code
	}
	return []api.Change{{Kind: api.ChangeModify, Before: before, After: after}}, api.Success
}

// slowRename makes on d what Rename makes, likewise.
func slowRename(d *dit.Tree, l []api.Rule, who, name string, m api.Msg) ([]api.Change, int) {
	if name == "!" {
		return nil, api.InvalidDN
	}
	if !slowMay(l, who, name, "entry") {
		return nil, api.Insufficient
	}
	list, code := rename.Plan(d, m)
	if code != api.Success {
		return nil, code
	}
	for _, c := range list {
		if !slowMay(l, who, c.Before.DN, "entry") || !slowMay(l, who, c.After.DN, "entry") {
			return nil, api.Insufficient
		}
	}
	return rename.Do(d, m)
}

// one tells one of list, by chance.
func one[T any](r *rand.Rand, list ...T) T { return list[r.Intn(len(list))] }

// nameOf tells a text of a name, mostly of one that is there, and that name as it counts, "!" of none.
func nameOf(r *rand.Rand, d *dit.Tree) (string, string) {
	switch r.Intn(20) {
	case 0:
		return one(r, "dc", ",", "dc=a,,dc=b", "\xff", " "), "!"
	case 1:
		return "DC=Z , dc=a", "dc=z,dc=a"
	case 2:
		return "", ""
	}
	name := one(r, append(d.Names(), "dc=a")...)
	return one(r, name, strings.ToUpper(name), strings.ReplaceAll(name, ",", " , ")), name
}

// ownOf tells the text of an own part, and its value.
func ownOf(r *rand.Rand) (string, string, string) {
	kind, value := one(r, "dc", "ou", "DC", "dc"), one(r, "a", "b", "c", "d", "A  b", "E")
	return kind + " = " + value, kind, value
}

// entryOf tells an entry that nearly always may be, below a name that is there, and its name as it counts, "!" of none.
func entryOf(r *rand.Rand, d *dit.Tree) (api.Entry, string) {
	text, above := nameOf(r, d)
	own, kind, value := ownOf(r)
	class := map[string]string{"dc": "Domain", "ou": "organizationalUnit"}[strings.ToLower(kind)]
	e := of(strings.TrimSuffix(own+","+text, ","), at(kind, strings.ToUpper(value)), at("objectClass", class))
	for _, more := range []api.Attr{at("description", "x"), at("O", "y"), at("zz", "x"), at("description"), at("member", "x")} {
		if r.Intn(6) == 0 {
			e.Attrs = append(e.Attrs, more)
		}
	}
	if above == "!" {
		return e, "!"
	}
	name := strings.ToLower(kind) + "=" + strings.ToLower(strings.Join(strings.Fields(value), " ")) + "," + above
	return e, strings.TrimSuffix(name, ",")
}

// modsOf tells mods, by chance.
func modsOf(r *rand.Rand) []api.Mod {
	var list []api.Mod
	for range one(r, 0, 1, 1, 2, 2, 3) {
		kind := one(r, "description", "Description", "o", "dc", "ou", "objectclass", "zz", "member")
		if r.Intn(3) > 0 {
			kind = "description"
		}
		values := one(r, nil, []string{"x"}, []string{"X ", "y"}, []string{"a"}, []string{"dc=a"}, []string{" "}, []string{"z"})
		list = append(list, mod(one(r, api.ModAdd, api.ModDelete, api.ModReplace, api.ModReplace, api.ModAdd, api.ModReplace, 3), kind, values...))
	}
	return list
}

// rulesOf tells rules, by chance, most of which give more than they take.
func rulesOf(r *rand.Rand, d *dit.Tree) []api.Rule {
	var l []api.Rule
	for range r.Intn(5) {
		l = append(l, api.Rule{
			Who: one(r, "*", "cn=x", "cn=y", ""), Below: one(r, append(d.Names(), "", "dc=z", "ou=c,dc=a")...),
			Attr:  one(r, "*", "entry", "Entry", "entry", "dc", "OU", "description", "objectclass"),
			Right: one(r, api.Write, api.Write, api.Write, api.Read), Allow: r.Intn(3) == 0,
		})
	}
	if r.Intn(6) > 0 {
		l = append(l, may("", "*"))
	}
	return l
}

// byChance is one call, and the same as the chapter's words have it.
type byChance struct {
	do, slow func(*dit.Tree) ([]api.Change, int)
}

// callOf tells a call, by chance: which one it is, and it itself.
func callOf(r *rand.Rand, d *dit.Tree, l []api.Rule, who string) (string, byChance) {
	text, name := nameOf(r, d)
	switch r.Intn(6) {
	case 0:
		return "delete", byChance{
			func(d *dit.Tree) ([]api.Change, int) { return Delete(d, l, who, text) },
			func(d *dit.Tree) ([]api.Change, int) { return slowDelete(d, l, who, name) },
		}
	case 1:
		list := modsOf(r)
		return "modify", byChance{
			func(d *dit.Tree) ([]api.Change, int) { return Modify(d, schema.Plain(), l, who, text, list) },
			func(d *dit.Tree) ([]api.Change, int) { return slowModify(d, l, who, name, list) },
		}
	case 2:
		own, _, _ := ownOf(r)
		above, _ := nameOf(r, d)
		m := api.Msg{DN: text, RDN: one(r, own, own, own, own, "zz=a", "dc"), Above: above, Move: r.Intn(2) == 0, DropOld: r.Intn(3) == 0}
		return "rename", byChance{
			func(d *dit.Tree) ([]api.Change, int) { return Rename(d, l, who, m) },
			func(d *dit.Tree) ([]api.Change, int) { return slowRename(d, l, who, name, m) },
		}
	}
	e, name := entryOf(r, d)
	return "add", byChance{
		func(d *dit.Tree) ([]api.Change, int) { return Add(d, l, who, e) },
		func(d *dit.Tree) ([]api.Change, int) { return slowAdd(d, l, who, name, e) },
	}
}

// TestChance makes changes by chance, one behind the other, and holds them against the chapter's words.
func TestChance(t *testing.T) {
	codes := map[string]map[int]int{"add": {}, "delete": {}, "modify": {}, "rename": {}}
	most := 0
	for seed := range int64(100) {
		r := rand.New(rand.NewSource(seed))
		d := tree(t, domain("dc=a", at("dc", "a")), domain("dc=b", at("dc", "b")))
		for step := range 200 {
			l, who := rulesOf(r, d), one(r, "cn=x", "cn=y", "", "cn=z")
			what, c := callOf(r, d, l, who)
			k := d.Copy()
			want, code := c.slow(k)
			got, done := c.do(d)
			if done != code || !isList(got, want) || !isState(state(d), state(k)) {
				t.Fatalf("%d, step %d: %s by %v for %q: %s, %d, not %s, %d", seed, step, what, l, who, told(got), done, told(want), code)
			}
			codes[what][code]++
			most = max(most, len(got))
		}
	}
	for what, list := range map[string][]int{
		"add":    {api.Success, api.InvalidDN, api.Insufficient, api.EntryExists, api.NoObject, api.UndefinedType, api.Constraint, api.InvalidSyntax, api.ClassViolation},
		"delete": {api.Success, api.InvalidDN, api.Insufficient, api.NoObject, api.NonLeaf},
		"modify": {api.Success, api.InvalidDN, api.Insufficient, api.NoObject, api.UndefinedType, api.InvalidSyntax, api.Constraint, api.AttrExists, api.NoAttribute, api.ProtocolError, api.OnRDN, api.ClassViolation},
		"rename": {api.Success, api.InvalidDN, api.Insufficient, api.NoObject, api.Unwilling, api.EntryExists, api.UndefinedType, api.ClassViolation},
	} {
		for _, code := range list {
			if codes[what][code] < 20 {
				t.Errorf("%s: code %d has come %d times", what, code, codes[what][code])
			}
		}
	}
	if most < 5 {
		t.Errorf("%d changes at most", most)
	}
}

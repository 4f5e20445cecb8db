package rename

import (
	"math/rand"
	"slices"
	"strings"
	"testing"

	"bothy/api"
	"bothy/dit"
	"bothy/schema"
)

// text is a text that may be meant as a name, and that name as it counts; "!" of what is none.
type text struct{ s, norm string }

// ownParts are texts of own parts, nearly all of them.
var ownParts = []text{
	{"dc=a", "dc=a"}, {"DC = A", "dc=a"}, {"dc=b", "dc=b"}, {"dc=a  B", "dc=a b"}, {"ou=a", "ou=a"}, {"OU=b", "ou=b"}, {"o=x", "o=x"},
	{"ou=A+dc=a", "dc=a+ou=a"}, {"dc=b + ou=a", "dc=b+ou=a"}, {"description=x+dc=b", "dc=b+description=x"}, {"uidnumber=7", "uidnumber=7"},
	{"dc=a", "dc=a"}, {"ou=b", "ou=b"}, {"DC=B", "dc=b"}, {"zz=a", "zz=a"},
	{"", "!"}, {"dc=a,dc=b", "!"}, {"dc", "!"},
}

// fold tells a value as it counts.
func fold(s string) string { return strings.Join(strings.Fields(strings.ToLower(s)), " ") }

// aboveOf tells the name above one whose values have no commas.
func aboveOf(name string) string {
	_, above, _ := strings.Cut(name, ",")
	return above
}

// pairsOf tells the pairs of the own part of such a name, whose values have no plus signs either.
func pairsOf(name string) [][2]string {
	own, _, _ := strings.Cut(name, ",")
	var list [][2]string
	for _, pair := range strings.Split(own, "+") {
		kind, value, _ := strings.Cut(pair, "=")
		list = append(list, [2]string{kind, value})
	}
	return list
}

// isBelow tells whether such a name is another one, or below it.
func isBelow(name, other string) bool { return name == other || strings.HasSuffix(name, ","+other) }

// slow makes a rename of d as the chapter's words have it: what is asked for is told as it counts.
func slow(d *dit.Tree, name, own, above text, m api.Msg) ([]api.Change, int) {
	there := map[string]api.Entry{}
	for _, e := range state(d) {
		there[e.DN] = e
	}
	if name.norm == "!" || own.norm == "!" || m.Move && above.norm == "!" {
		return nil, api.InvalidDN
	}
	e, ok := there[name.norm]
	if !ok {
		return nil, api.NoObject
	}
	over := aboveOf(name.norm)
	if m.Move {
		over = above.norm
	}
	next := strings.TrimSuffix(own.norm+","+over, ",")
	if next != name.norm && isBelow(next, name.norm) {
		return nil, api.Unwilling
	}
	if _, ok := there[over]; !ok && over != "" {
		return nil, api.NoObject
	}
	if _, ok := there[next]; ok && next != name.norm {
		return nil, api.EntryExists
	}
	after := slowEntry(e, next, m.DropOld)
	if code := d.Schema().Check(after); code != api.Success {
		return nil, code
	}
	var list []api.Change
	for _, old := range d.Names() {
		if isBelow(old, name.norm) {
			moved := copied(there[old])
			moved.DN = strings.TrimSuffix(old, name.norm) + next
			list = append(list, api.Change{Kind: api.ChangeRename, Before: there[old], After: moved, Old: old})
		}
	}
	list[0].After = after
	return list, api.Success
}

// slowEntry tells what becomes of an entry by another name; all of its values count by their letters and blanks.
func slowEntry(e api.Entry, next string, isDropped bool) api.Entry {
	values := map[string][]string{}
	for _, a := range e.Attrs {
		values[a.Type] = slices.Clone(a.Values)
	}
	place := func(p [2]string) int {
		return slices.IndexFunc(values[p[0]], func(v string) bool { return fold(v) == p[1] })
	}
	for _, p := range pairsOf(e.DN) {
		if i := place(p); isDropped && !slices.Contains(pairsOf(next), p) && i >= 0 {
			values[p[0]] = slices.Delete(values[p[0]], i, i+1)
		}
	}
	for _, p := range pairsOf(next) {
		if place(p) < 0 {
			values[p[0]] = append(values[p[0]], p[1])
		}
	}
	out := of(next)
	for kind, list := range values {
		if len(list) > 0 {
			out.Attrs = append(out.Attrs, at(kind, list...))
		}
	}
	slices.SortFunc(out.Attrs, func(a, b api.Attr) int { return strings.Compare(a.Type, b.Type) })
	return out
}

// one tells one of list, by chance.
func one[T any](r *rand.Rand, list []T) T { return list[r.Intn(len(list))] }

// grow adds entries to d, by chance.
func grow(r *rand.Rand, d *dit.Tree) {
	names := append(d.Names(), "")
	own := one(r, []string{"dc=a", "dc=b", "dc=a b", "ou=a", "ou=b", "dc=a+ou=a", "dc=b+ou=a", "dc=c", "ou=c"})
	e := of(strings.TrimSuffix(own+","+one(r, names), ","))
	values := map[string][]string{"objectclass": {}}
	for _, p := range pairsOf(e.DN) {
		values[p[0]] = append(values[p[0]], one(r, []string{p[1], strings.ToUpper(p[1]), " " + p[1]}))
	}
	for _, kind := range []string{"dc", "ou", "description", "o"} {
		for _, value := range []string{"a", "B", "x"} {
			if r.Intn(5) == 0 && !slices.ContainsFunc(values[kind], func(v string) bool { return fold(v) == fold(value) }) {
				values[kind] = append(values[kind], value)
			}
		}
	}
	for _, class := range [][2]string{{"domain", "dc"}, {"organizationalunit", "ou"}} {
		if len(values[class[1]]) > 0 {
			values["objectclass"] = append(values["objectclass"], class[0])
		}
	}
	for kind, list := range values {
		e.Attrs = append(e.Attrs, at(kind, list...))
	}
	d.Add(e)
}

// nameOf tells a text of a name, mostly of one that is there.
func nameOf(r *rand.Rand, d *dit.Tree) text {
	switch r.Intn(12) {
	case 0:
		return one(r, []text{{"dc", "!"}, {",", "!"}, {"dc=a,,dc=b", "!"}, {"\xff", "!"}})
	case 1:
		return one(r, []text{{"", ""}, {"dc=z", "dc=z"}, {"ou=a, DC=Z", "ou=a,dc=z"}})
	case 2:
		name := "ou=z," + one(r, d.Names())
		return text{name, name}
	}
	name := one(r, d.Names())
	return one(r, []text{{name, name}, {strings.ToUpper(name), name}, {strings.ReplaceAll(name, ",", " , "), name}})
}

// TestChance makes renames by chance, one behind the other, and holds them against the chapter's words.
func TestChance(t *testing.T) {
	codes := map[int]int{}
	sizes := map[int]int{}
	for seed := range int64(80) {
		r := rand.New(rand.NewSource(seed))
		d := tree(t, domain("dc=a", at("dc", "a")))
		for step := range 50 {
			grow(r, d)
			name, own, above := nameOf(r, d), one(r, ownParts), nameOf(r, d)
			m := api.Msg{DN: name.s, RDN: own.s, Above: above.s, Move: r.Intn(2) == 0, DropOld: r.Intn(2) == 0}
			was := state(d)
			want, code := slow(d, name, own, above, m)
			kept := moved(t, d, want)
			got, planned := Plan(d, m)
			if planned != code || !isList(got, want) || !isState(state(d), was) {
				t.Fatalf("%d, step %d: Plan of %+v: %s, %d, not %s, %d", seed, step, m, told(got), planned, told(want), code)
			}
			got, done := Do(d, m)
			if done != code || !isList(got, want) || !isState(state(d), state(kept)) {
				t.Fatalf("%d, step %d: Do of %+v: %s, %d, not %s, %d", seed, step, m, told(got), done, told(want), code)
			}
			codes[code]++
			sizes[min(len(got), 4)]++
		}
	}
	for _, code := range []int{api.Success, api.InvalidDN, api.NoObject, api.Unwilling, api.EntryExists, api.UndefinedType, api.ClassViolation} {
		if codes[code] < 40 {
			t.Errorf("code %d has come %d times", code, codes[code])
		}
	}
	for size := range 5 {
		if sizes[size] < 40 {
			t.Errorf("%d changes have come %d times", size, sizes[size])
		}
	}
}

// TestSchema holds the rule of each type of a schema of its own.
func TestSchema(t *testing.T) {
	s, err := schema.New([]api.Type{
		{Name: "ObjectClass", Rule: api.RuleExact}, {Name: "A-1", Rule: api.RuleExact}, {Name: "B-2", Rule: api.RuleInt}, {Name: "C-3", Rule: api.RuleIgnore},
	}, []api.Class{{Name: "thing", May: []string{"a-1", "B-2", "c-3"}}})
	if err != api.OK {
		t.Fatalf("New: %d", err)
	}
	thing := func(name string, more ...api.Attr) api.Entry {
		return of(name, append(more, at("objectclass", "thing"))...)
	}
	d := dit.New(s)
	put(t, d, thing("b-2=1", at("B-2", "01"), at("c-3", "C")))
	holds(t, "a type in great letters", d, drop(to("B-2 = 1", "A-1=X + C-3=c")), wanted(d, []pair{
		{"b-2=1", thing("a-1=x+c-3=c", at("a-1", "x"), at("c-3", "C"))},
	}))
	holds(t, "a number with noughts", d, drop(to("b-2=1", "B-2=001")), wanted(d, []pair{
		{"b-2=1", thing("b-2=001", at("b-2", "01"), at("c-3", "C"))},
	}))
	holds(t, "another number", d, to("b-2=1", "B-2=-0"), wanted(d, []pair{
		{"b-2=1", thing("b-2=-0", at("b-2", "01", "-0"), at("c-3", "C"))},
	}))
	refused(t, "no number", d, to("b-2=1", "B-2=x"), api.InvalidSyntax)
	refused(t, "no type of it", d, to("b-2=1", "cn=x"), api.UndefinedType)
	refused(t, "no class of it", d, to("b-2=1", "objectclass=x"), api.ClassViolation)
}

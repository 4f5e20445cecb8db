package acl

import (
	"math"
	"math/rand"
	"regexp"
	"slices"
	"strconv"
	"strings"
	"testing"

	"bothy/api"
	"bothy/dn"
)

// rule tells one for reading that gives it.
func rule(who, below, attr string) api.Rule {
	return api.Rule{Who: who, Below: below, Attr: attr, Right: api.Read, Allow: true}
}

// some tells n rules of this kind.
func some(n int, r api.Rule) []api.Rule {
	return slices.Repeat([]api.Rule{r}, n)
}

// row tells a normal name of n parts.
func row(n int) string {
	return strings.TrimSuffix(strings.Repeat("a=v,", n), ",")
}

// long tells a name of 16 parts that has size bytes, 4096 or 4097 of them: normal, if they aren't too many.
func long(size int) string {
	part := "a=" + strings.Repeat("v", 253)
	return strings.Repeat(part+",", 15) + part + strings.Repeat("v", size-(16*256-1))
}

// short tells s as it stands in a message.
func short(s string) string {
	if len(s) > 80 {
		return strconv.Quote(s[:80]) + " and so on"
	}
	return strconv.Quote(s)
}

// normal are names as they count.
func normal() []string {
	return []string{
		"", "dc=b", "cn=a,dc=b", "cn=al ko,ou=x,dc=b", "a=1+b=2,dc=b", "a-9=0", `cn=a\,b,dc=b`, `cn=\00\7f`, "cn=*", "cn=\u00c4\xff",
		row(32), long(4096), "a=" + strings.Repeat("v", 256), strings.Repeat("a", 64) + "=v",
	}
}

// wrong are texts that are no names, or are not as they count.
func wrong() []string {
	return []string{
		"CN=a", "cn=A", "cn=a,DC=b", " ", " cn=a", "cn=a ", "cn = a", "cn=a, dc=b", "cn=a  b", "cn=a=b", `cn=\61`, `cn=a\ b`, "b=1+a=1",
		"a", "=", "a=", "=a", ",", "+", `\`, "cn=a,", ",cn=a", "cn=a,,dc=b", "cn=a+", "1=a", "a_b=c", "*=a", "*,dc=b", "dc=b,*",
		"**", " *", "* ", `\*`, "*\x00", "\x00", "cn=a\x00", "\xff", "anonymous", "entry",
		row(33), long(4097), "a=" + strings.Repeat("v", 257), strings.Repeat("a", 65) + "=v", strings.Repeat("a", 5000),
	}
}

// types are those that attributes may have.
func types() []string {
	return []string{"cn", "CN", "Cn", "entry", "objectClass", "a", "Z", "a1", "a-", "a--9-", "z0-Z", strings.Repeat("a", 64), "x" + strings.Repeat("-", 63)}
}

// wrongTypes are texts that are no types of attributes.
func wrongTypes() []string {
	return []string{
		"", "1", "1a", "-", "-a", " ", " a", "a ", "a b", "a_b", "a.b", "2.5.4.3", "a;b", "a=b", "a=", "a+b", "a,b", `a\b`, "**", "a*", "*a", "* ",
		"a\x00", "\x00", "a\n", "\u00e4", "a\u00e4", "a\xff", "a\x7f", strings.Repeat("a", 65), strings.Repeat("a", 5000),
	}
}

// rights are numbers that are no rights.
func rights() []int {
	list := []int{0, 3, 4, -1, -2, 255, 257, 258, 1<<16 + 1, math.MaxInt32, math.MinInt32, math.MaxInt, math.MinInt}
	wide := 1
	wide <<= 31 // where an int has 32 bits, the next ones are 0 and 1
	if wide <<= 1; wide != 0 {
		list = append(list, wide, wide+1, wide+2, -wide, -wide+1)
	}
	return list
}

// check sees that Check of l is want, and that a list which it refuses has no first rule.
func check(t *testing.T, what string, l []api.Rule, want api.Errno) {
	t.Helper()
	if got := Check(l); got != want {
		t.Errorf("Check of %s: %d, not %d", what, got, want)
	}
	if want == api.OK {
		return
	}
	// Whatever the wrong rule is: here the first one is right, and says it.
	all := append([]api.Rule{rule("*", "", "*")}, l...)
	if got := First(all, "cn=a", "dc=b", "cn", api.Read); got != -1 {
		t.Errorf("First of %s: %d", what, got)
	}
	if Allowed(all, "cn=a", "dc=b", "cn", api.Read) {
		t.Errorf("Allowed by %s", what)
	}
}

func TestCheckNames(t *testing.T) {
	for _, s := range normal() {
		check(t, "a who "+short(s), []api.Rule{rule(s, "", "*")}, api.OK)
		check(t, "a below "+short(s), []api.Rule{rule("*", s, "*")}, api.OK)
	}
	for _, s := range wrong() {
		check(t, "a who "+short(s), []api.Rule{rule(s, "", "*")}, api.ErrName)
		check(t, "a below "+short(s), []api.Rule{rule("*", s, "*")}, api.ErrName)
	}
	check(t, "a who of all", []api.Rule{rule("*", "dc=b", "cn")}, api.OK)
	check(t, "a below of all", []api.Rule{rule("*", "*", "*")}, api.ErrName)
}

func TestCheckTypes(t *testing.T) {
	for _, s := range append(types(), "*") {
		check(t, "an attr "+short(s), []api.Rule{rule("cn=a", "dc=b", s)}, api.OK)
	}
	for _, s := range wrongTypes() {
		check(t, "an attr "+short(s), []api.Rule{rule("cn=a", "dc=b", s)}, api.ErrName)
	}
	for c := range 256 {
		ahead, behind := api.ErrName, api.ErrName
		letter := c >= 'a' && c <= 'z' || c >= 'A' && c <= 'Z'
		if letter || c == '*' {
			ahead = api.OK
		}
		if letter || c >= '0' && c <= '9' || c == '-' {
			behind = api.OK
		}
		one := string([]byte{byte(c)})
		check(t, "an attr "+strconv.Quote(one), []api.Rule{rule("*", "", one)}, ahead)
		check(t, "an attr "+strconv.Quote("a"+one), []api.Rule{rule("*", "", "a"+one)}, behind)
		check(t, "an attr "+strconv.Quote("a"+one+"a"), []api.Rule{rule("*", "", "a"+one+"a")}, behind)
	}
}

func TestCheckRights(t *testing.T) {
	for _, right := range []int{api.Read, api.Write} {
		for _, allow := range []bool{false, true} {
			check(t, "a right", []api.Rule{{Who: "*", Attr: "*", Right: right, Allow: allow}}, api.OK)
		}
	}
	for _, right := range rights() {
		check(t, "the right "+strconv.Itoa(right), []api.Rule{{Who: "*", Attr: "*", Right: right, Allow: true}}, api.ErrArg)
	}
}

func TestCheckMany(t *testing.T) {
	good := rule("*", "", "*")
	check(t, "nil", nil, api.OK)
	check(t, "none", []api.Rule{}, api.OK)
	check(t, "the zero rule", []api.Rule{{}}, api.ErrName)
	check(t, "256", some(256, good), api.OK)
	check(t, "257", some(257, good), api.ErrLong)
	check(t, "5000", some(5000, good), api.ErrLong)
	check(t, "257 without names", some(257, api.Rule{}), api.ErrLong)
	check(t, "257 without rights", some(257, api.Rule{Who: "*", Attr: "*"}), api.ErrLong)
	for _, at := range []int{0, 1, 128, 255} {
		l := some(256, good)
		l[at].Below = "DC=b"
		check(t, "256 with a wrong name", l, api.ErrName)
		l[at] = good
		l[at].Right = 3
		check(t, "256 with a wrong right", l, api.ErrArg)
	}
}

func TestCheckNameAheadOfRight(t *testing.T) {
	good := rule("*", "", "*")
	right := api.Rule{Who: "*", Attr: "*"}
	for _, name := range []api.Rule{rule("CN=a", "", "*"), rule("*", "CN=a", "*"), rule("*", "", "1")} {
		both := name
		both.Right = 3
		check(t, "both in one", []api.Rule{both}, api.ErrName)
		check(t, "a name, a right", []api.Rule{name, right}, api.ErrName)
		check(t, "a right, a name", []api.Rule{right, name}, api.ErrName)
		check(t, "both at the ends", []api.Rule{right, good, right, good, name}, api.ErrName)
		check(t, "both at the ends", []api.Rule{name, good, right, good, right}, api.ErrName)
	}
	check(t, "two rights", []api.Rule{good, right, good, right, good}, api.ErrArg)
}

func TestFirst(t *testing.T) {
	l := []api.Rule{
		0: {Who: "cn=a", Below: "dc=b", Attr: "SN", Right: api.Read},
		1: {Who: "cn=a", Below: "ou=x,dc=b", Attr: "*", Right: api.Write, Allow: true},
		2: {Who: "", Below: "", Attr: "entry", Right: api.Read, Allow: true},
		3: {Who: "*", Below: "ou=x,dc=b", Attr: "uid-1", Right: api.Read, Allow: true},
		4: {Who: "*", Below: "ou=x,dc=b", Attr: "*", Right: api.Read},
		5: {Who: "cn=a", Below: "", Attr: "*", Right: api.Write},
		6: {Who: "cn=z,dc=b", Below: "", Attr: "*", Right: api.Read, Allow: true},
	}
	for _, c := range []struct {
		who, at, attr string
		right         int
		want          int
	}{
		{"cn=a", "dc=b", "SN", api.Read, 0},
		{"cn=a", "dc=b", "sn", api.Read, 0},
		{"cn=a", "dc=b", "sN", api.Read, 0},
		{"cn=a", "cn=q,dc=b", "sn", api.Read, 0},
		{"cn=a", "cn=q,ou=x,dc=b", "sn", api.Read, 0},
		{"cn=a", "", "sn", api.Read, -1},
		{"cn=a", "dc=c", "sn", api.Read, -1},
		{"cn=a", "dc=bb", "sn", api.Read, -1},
		{"cn=a", "x=dc\\=b", "sn", api.Read, -1},
		{"cn=a", "dc=b", "s", api.Read, -1},
		{"cn=a", "dc=b", "sn ", api.Read, -1},
		{"cn=a", "dc=b", "snn", api.Read, -1},
		{"cn=a", "dc=b", "cn", api.Read, -1},
		{"CN=a", "dc=b", "sn", api.Read, -1},
		{"cn=A", "dc=b", "sn", api.Read, -1},
		{"cn=b", "dc=b", "sn", api.Read, -1},
		{"cn=a,dc=b", "dc=b", "sn", api.Read, -1},
		{"", "dc=b", "sn", api.Read, -1},
		{"*", "dc=b", "sn", api.Read, -1},
		{"cn=a", "ou=x,dc=b", "sn", api.Write, 1},
		{"cn=a", "cn=q,ou=x,dc=b", "entry", api.Write, 1},
		{"cn=a", "dc=b", "sn", api.Write, 5},
		{"cn=a", "", "sn", api.Write, 5},
		{"cn=a", "dc=c", "", api.Write, 5},
		{"cn=b", "dc=b", "sn", api.Write, -1},
		{"", "dc=b", "entry", api.Read, 2},
		{"", "", "ENTRY", api.Read, 2},
		{"cn=a", "dc=b", "entry", api.Read, -1},
		{"*", "dc=b", "entry", api.Read, -1},
		{"", "ou=x,dc=b", "entry", api.Read, 2},
		{"", "ou=x,dc=b", "cn", api.Read, 4},
		{"cn=q", "ou=x,dc=b", "entry", api.Read, 4},
		{"cn=q", "ou=x,dc=b", "UID-1", api.Read, 3},
		{"cn=q", "ou=y,dc=b", "UID-1", api.Read, -1},
		{"nobody", "ou=x,dc=b", "uid-1", api.Read, 3},
		{"*", "ou=x,dc=b", "uid-1", api.Read, 3},
		{"CN=A", "ou=x,dc=b", "*", api.Read, 4},
		{"\xff", "ou=x,dc=b", "", api.Read, 4},
		{"", "ou=x,dc=b", "no type", api.Read, 4},
		{"cn=a", "ou=x,dc=b", "*", api.Read, 4},
		{"cn=z,dc=b", "dc=b", "sn", api.Read, 6},
		{"cn=z,dc=b", "", "", api.Read, 6},
		{"cn=z,dc=b", "ou=x,dc=b", "sn", api.Read, 4},
		{"dc=b", "dc=b", "sn", api.Read, -1},
		{"cn=y,cn=z,dc=b", "dc=b", "sn", api.Read, -1},
	} {
		if got := First(l, c.who, c.at, c.attr, c.right); got != c.want {
			t.Errorf("First of %q, %q, %q, %d: %d, not %d", c.who, c.at, c.attr, c.right, got, c.want)
		}
		want := c.want >= 0 && l[c.want].Allow
		if got := Allowed(l, c.who, c.at, c.attr, c.right); got != want {
			t.Errorf("Allowed of %q, %q, %q, %d: %t", c.who, c.at, c.attr, c.right, got)
		}
	}
}

func TestNoRules(t *testing.T) {
	for _, l := range [][]api.Rule{nil, {}} {
		for _, right := range []int{api.Read, api.Write, 0} {
			if got := First(l, "", "", "", right); got != -1 {
				t.Errorf("First of no rules: %d", got)
			}
			if got := First(l, "cn=a", "dc=b", "entry", right); got != -1 {
				t.Errorf("First of no rules: %d", got)
			}
			if Allowed(l, "", "", "", right) || Allowed(l, "cn=a", "dc=b", "entry", right) {
				t.Error("Allowed by no rules")
			}
		}
	}
}

// A rule that is ahead says it, whatever those behind it say.
func TestFirstOfTwo(t *testing.T) {
	give, take := rule("*", "", "*"), rule("*", "", "*")
	take.Allow = false
	other := give
	other.Right = api.Write
	for _, c := range []struct {
		l     []api.Rule
		first int
		allow bool
	}{
		{[]api.Rule{give}, 0, true},
		{[]api.Rule{take}, 0, false},
		{[]api.Rule{give, take}, 0, true},
		{[]api.Rule{take, give}, 0, false},
		{[]api.Rule{give, give}, 0, true},
		{[]api.Rule{other, take, give}, 1, false},
		{[]api.Rule{other, give, take}, 1, true},
		{[]api.Rule{other, other, other}, -1, false},
	} {
		if got := First(c.l, "cn=a", "dc=b", "cn", api.Read); got != c.first {
			t.Errorf("First of %v: %d", c.l, got)
		}
		if got := Allowed(c.l, "cn=a", "dc=b", "cn", api.Read); got != c.allow {
			t.Errorf("Allowed by %v: %t", c.l, got)
		}
	}
}

func TestFirstOfMany(t *testing.T) {
	l := some(256, rule("cn=b", "", "*"))
	if got := First(l, "cn=a", "dc=b", "cn", api.Read); got != -1 {
		t.Errorf("First of 256 for somebody else: %d", got)
	}
	for _, at := range []int{255, 254, 1, 0} {
		l[at].Who = "cn=a"
		if got := First(l, "cn=a", "dc=b", "cn", api.Read); got != at {
			t.Errorf("First of 256: %d, not %d", got, at)
		}
		if !Allowed(l, "cn=a", "dc=b", "cn", api.Read) {
			t.Errorf("%d: not allowed", at)
		}
	}
	l = append(l, l[0])
	if got := First(l, "cn=a", "dc=b", "cn", api.Read); got != -1 {
		t.Errorf("First of 257: %d", got)
	}
	if Allowed(l, "cn=a", "dc=b", "cn", api.Read) {
		t.Error("Allowed by 257")
	}
}

// What is no name as it counts stands below nothing, not below "" either.
func TestFirstAt(t *testing.T) {
	l := []api.Rule{rule("*", "", "*")}
	for _, s := range normal() {
		if got := First(l, "cn=a", s, "cn", api.Read); got != 0 {
			t.Errorf("First at %s: %d", short(s), got)
		}
		if got := First([]api.Rule{rule("*", s, "*")}, "", s, "cn", api.Read); got != 0 {
			t.Errorf("First at %s, below itself: %d", short(s), got)
		}
	}
	for _, s := range append(wrong(), "*") {
		if got := First(l, "cn=a", s, "cn", api.Read); got != -1 {
			t.Errorf("First at %s: %d", short(s), got)
		}
		if Allowed(l, "cn=a", s, "cn", api.Read) {
			t.Errorf("Allowed at %s", short(s))
		}
	}
}

// Rules for all count for whoever asks, of whatever; others for what they name alone.
func TestFirstOfWhatever(t *testing.T) {
	l := []api.Rule{rule("*", "", "*")}
	for _, who := range slices.Concat(normal(), wrong(), []string{"*"}) {
		if got := First(l, who, "dc=b", "cn", api.Read); got != 0 {
			t.Errorf("First of %s: %d", short(who), got)
		}
		want := -1
		if who == "cn=a,dc=b" {
			want = 0
		}
		if got := First([]api.Rule{rule("cn=a,dc=b", "", "*")}, who, "dc=b", "cn", api.Read); got != want {
			t.Errorf("First of %s, of a rule for another one: %d", short(who), got)
		}
	}
	for _, attr := range slices.Concat(types(), wrongTypes(), []string{"*"}) {
		if got := First(l, "cn=a", "dc=b", attr, api.Read); got != 0 {
			t.Errorf("First of %s: %d", short(attr), got)
		}
		want := -1
		if attr == "cn" || attr == "Cn" || attr == "CN" {
			want = 0
		}
		for _, own := range []string{"cn", "CN", "cN"} {
			if got := First([]api.Rule{rule("cn=a", "", own)}, "cn=a", "dc=b", attr, api.Read); got != want {
				t.Errorf("First of %s, of a rule of %q: %d", short(attr), own, got)
			}
		}
	}
	for _, right := range rights() {
		if got := First(l, "cn=a", "dc=b", "cn", right); got != -1 {
			t.Errorf("First of the right %d: %d", right, got)
		}
		if Allowed(l, "cn=a", "dc=b", "cn", right) {
			t.Errorf("Allowed the right %d", right)
		}
	}
}

// slowType is a type's text.
var slowType = regexp.MustCompile(`\A[A-Za-z][A-Za-z0-9-]{0,63}\z`)

// slowNormal tells whether s is normal.
func slowNormal(s string) bool {
	norm, err := dn.Norm(s)
	return err == api.OK && norm == s
}

// slowUnder tells whether at stands below base, part by part.
func slowUnder(at, base string) bool {
	if !slowNormal(at) || !slowNormal(base) {
		return false
	}
	a, _ := dn.Read(at)
	b, _ := dn.Read(base)
	return len(a) >= len(b) && slices.EqualFunc(a[len(a)-len(b):], b, slices.Equal[api.RDN])
}

// slowCheck tells what Check should: each thing that is asked of all rules, one behind the other.
func slowCheck(l []api.Rule) api.Errno {
	if len(l) > 256 {
		return 3
	}
	for _, r := range l {
		if r.Who != "*" && !slowNormal(r.Who) || !slowNormal(r.Below) || r.Attr != "*" && !slowType.MatchString(r.Attr) {
			return 13
		}
	}
	for _, r := range l {
		if r.Right != 1 && r.Right != 2 {
			return 1
		}
	}
	return 0
}

// slowFirst tells what First should: the last place found from the end on.
func slowFirst(l []api.Rule, who, at, attr string, right int) int {
	first := -1
	if slowCheck(l) != 0 {
		return first
	}
	for i := len(l) - 1; i >= 0; i-- {
		r := l[i]
		if r.Right == right && (r.Who == "*" || r.Who == who) && slowUnder(at, r.Below) &&
			(r.Attr == "*" || strings.ToLower(r.Attr) == strings.ToLower(attr)) {
			first = i
		}
	}
	return first
}

// Pools that rules, and what is asked of them, are made of; the last ones of each are wrong.
var (
	whos   = []string{"*", "", "cn=a", "cn=a,dc=b", "dc=b", "CN=a"}
	belows = []string{"", "dc=b", "cn=a,dc=b", `cn=a\,dc\=b`, "DC=b"}
	attrs  = []string{"*", "cn", "CN", "sn", ""}
	acts   = []int{1, 2, 0}
)

// hold holds what all three tell of l against the slow ones, and sees that l stays as it is.
func hold(t *testing.T, l []api.Rule, who, at, attr string, right int) {
	t.Helper()
	was := slices.Clone(l)
	if got, want := Check(l), slowCheck(was); got != want {
		t.Fatalf("Check of %+v: %d, not %d", was, got, want)
	}
	want := slowFirst(was, who, at, attr, right)
	if got := First(l, who, at, attr, right); got != want {
		t.Fatalf("First of %+v, %q, %q, %q, %d: %d, not %d", was, who, at, attr, right, got, want)
	}
	if got := Allowed(l, who, at, attr, right); got != (want >= 0 && was[want].Allow) {
		t.Fatalf("Allowed by %+v, %q, %q, %q, %d: %t", was, who, at, attr, right, got)
	}
	if !slices.Equal(l, was) {
		t.Fatalf("%+v became %+v", was, l)
	}
}

// all tells each rule of the pools.
func all() []api.Rule {
	var list []api.Rule
	for _, who := range whos {
		for _, below := range belows {
			for _, attr := range attrs {
				for _, right := range acts {
					list = append(list, api.Rule{Who: who, Below: below, Attr: attr, Right: right, Allow: len(list)%2 == 0})
				}
			}
		}
	}
	return list
}

// Each rule of the pools alone, and all that the pools ask of it.
func TestEachRule(t *testing.T) {
	asks := all()
	for _, r := range all() {
		for _, a := range asks {
			hold(t, []api.Rule{r}, a.Who, a.Below, a.Attr, a.Right)
		}
	}
}

// pick tells one of list, seldom the last one.
func pick[T any](r *rand.Rand, list []T) T {
	if r.Intn(40) == 0 {
		return list[len(list)-1]
	}
	return list[r.Intn(len(list)-1)]
}

// Lists of rules out of the pools.
func TestLists(t *testing.T) {
	r := rand.New(rand.NewSource(16))
	for range 30000 {
		l := make([]api.Rule, r.Intn(9))
		for i := range l {
			l[i] = api.Rule{Who: pick(r, whos), Below: pick(r, belows), Attr: pick(r, attrs), Right: pick(r, acts), Allow: r.Intn(2) == 0}
		}
		hold(t, l, pick(r, whos), pick(r, belows), pick(r, attrs), pick(r, acts))
	}
}

// Rules whose parts are as great as they may be.
func TestGreatest(t *testing.T) {
	who := long(4096)
	l := some(256, rule(who, who, strings.Repeat("a", 64)))
	if got := First(l, who, who, strings.Repeat("A", 64), api.Read); got != 0 {
		t.Errorf("First: %d", got)
	}
	if got := First(l, who, who, "cn", api.Read); got != -1 {
		t.Errorf("First of another one: %d", got)
	}
}

package rules

import (
	"math"
	"math/big"
	"slices"
	"strings"
	"testing"

	"bothy/api"
	"bothy/dn"
	"bothy/fold"
)

// all are the rules that there are.
var all = []int{api.RuleIgnore, api.RuleExact, api.RuleInt, api.RuleOctet, api.RuleDN}

// others are numbers of no rule.
var others = []int{0, -1, 6, 7, 256 + api.RuleIgnore, -api.RuleInt, math.MinInt, math.MaxInt, 1<<32 + api.RuleOctet}

// name is a name of 4096 bytes that counts as it stands: 16 parts of 255 bytes, with 15 commas and one byte more.
var name = strings.Repeat("a="+strings.Repeat("v", 253)+",", 15) + "a=" + strings.Repeat("v", 254)

// nines is the greatest number that there is.
var nines = strings.Repeat("9", 32)

var norms = []struct {
	rule    int
	s, want string
}{
	{api.RuleIgnore, "a", "a"},
	{api.RuleIgnore, "A  b", "a b"},
	{api.RuleIgnore, "  Al   Ko ", "al ko"},
	{api.RuleIgnore, "ABC", "abc"},
	{api.RuleIgnore, "-007", "-007"},
	{api.RuleIgnore, "CN = A", "cn = a"},
	{api.RuleIgnore, "\tA\t\tB", "\ta\t\tb"},
	{api.RuleIgnore, "\u00c4A", "\u00c4a"},
	{api.RuleIgnore, "\xffA  \xc3", "\xffa \xc3"},
	{api.RuleIgnore, "\x00", "\x00"},
	{api.RuleExact, "a", "a"},
	{api.RuleExact, "A  b", "A b"},
	{api.RuleExact, "  Al   Ko ", "Al Ko"},
	{api.RuleExact, "-007", "-007"},
	{api.RuleExact, "\n", "\n"},
	{api.RuleExact, "\xff  \xffA", "\xff \xffA"},
	{api.RuleInt, "0", "0"},
	{api.RuleInt, "-0", "0"},
	{api.RuleInt, "007", "7"},
	{api.RuleInt, "-007", "-7"},
	{api.RuleInt, nines, nines},
	{api.RuleInt, "-" + nines, "-" + nines},
	{api.RuleOctet, "", ""},
	{api.RuleOctet, " ", " "},
	{api.RuleOctet, "  A  b ", "  A  b "},
	{api.RuleOctet, "007", "007"},
	{api.RuleOctet, "\x00\xff", "\x00\xff"},
	{api.RuleDN, "", ""},
	{api.RuleDN, "CN=a", "cn=a"},
	{api.RuleDN, "CN = Al  Ko , DC=x", "cn=al ko,dc=x"},
	{api.RuleDN, "b=1+A=2", "a=2+b=1"},
	{api.RuleDN, "a=b=c", `a=b\=c`},
	// As many bytes as may be.
	{api.RuleIgnore, strings.Repeat("A", 4096), strings.Repeat("a", 4096)},
	{api.RuleIgnore, "A" + strings.Repeat(" ", 4095), "a"},
	{api.RuleExact, strings.Repeat("A", 4096), strings.Repeat("A", 4096)},
	{api.RuleExact, strings.Repeat("A ", 2048), strings.Repeat("A ", 2047) + "A"},
	{api.RuleOctet, strings.Repeat(" ", 4096), strings.Repeat(" ", 4096)},
	{api.RuleDN, name, name},
	{api.RuleDN, "CN=A" + strings.Repeat(" ", 4092), "cn=a"},
}

func TestNorm(t *testing.T) {
	for _, c := range norms {
		if got, ok := Norm(c.rule, c.s); got != c.want || !ok {
			t.Errorf("Norm by %d of %.40q: %.40q, %t", c.rule, c.s, got, ok)
		}
	}
}

var noNorms = []struct {
	rule int
	s    string
}{
	// Nothing is left.
	{api.RuleIgnore, ""},
	{api.RuleIgnore, " "},
	{api.RuleIgnore, "    "},
	{api.RuleIgnore, strings.Repeat(" ", 4096)},
	{api.RuleExact, ""},
	{api.RuleExact, " "},
	{api.RuleExact, strings.Repeat(" ", 4096)},
	// No number.
	{api.RuleInt, ""},
	{api.RuleInt, "-"},
	{api.RuleInt, "--1"},
	{api.RuleInt, "+1"},
	{api.RuleInt, " 1"},
	{api.RuleInt, "1 "},
	{api.RuleInt, "1x"},
	{api.RuleInt, "0x1"},
	{api.RuleInt, "1.0"},
	{api.RuleInt, nines + "9"},
	{api.RuleInt, "0" + nines},
	{api.RuleInt, strings.Repeat("0", 4096)},
	// No name.
	{api.RuleDN, "a"},
	{api.RuleDN, " "},
	{api.RuleDN, "="},
	{api.RuleDN, "cn=a,"},
	{api.RuleDN, "a=b+A=c"},
	{api.RuleDN, `cn=\ `},
	{api.RuleDN, "cn=a;dc=b"},
	{api.RuleDN, strings.Repeat("a=b,", 32) + "a=b"},
	// A name in so many bytes alone that must have a backslash ahead: as it counts it is too long.
	{api.RuleDN, strings.Repeat("a="+strings.Repeat("=", 253)+",", 15) + "a=" + strings.Repeat("=", 254)},
	// More bytes than may be, however many of them count.
	{api.RuleIgnore, strings.Repeat("a", 4097)},
	{api.RuleIgnore, "a" + strings.Repeat(" ", 4096)},
	{api.RuleExact, strings.Repeat("a", 4097)},
	{api.RuleExact, strings.Repeat(" ", 4096) + "a"},
	{api.RuleInt, strings.Repeat("0", 4096) + "1"},
	{api.RuleOctet, strings.Repeat("a", 4097)},
	{api.RuleOctet, strings.Repeat("a", 1<<20)},
	{api.RuleDN, name + "v"},
	{api.RuleDN, "cn=a" + strings.Repeat(" ", 4093)},
}

func TestNoNorm(t *testing.T) {
	for _, c := range noNorms {
		if got, ok := Norm(c.rule, c.s); got != "" || ok {
			t.Errorf("Norm by %d of %.40q: %.40q, %t", c.rule, c.s, got, ok)
		}
	}
	for _, rule := range others {
		for _, s := range []string{"", "a", "7", "cn=a", "A  b"} {
			if got, ok := Norm(rule, s); got != "" || ok {
				t.Errorf("Norm by %d of %q: %q, %t", rule, s, got, ok)
			}
		}
	}
}

// texts tells all texts of up to most of letters.
func texts(letters string, most int) []string {
	out := []string{""}
	from := 0
	for range most {
		to := len(out)
		for _, s := range out[from:to] {
			for i := range len(letters) {
				out = append(out, s+letters[i:i+1])
			}
		}
		from = to
	}
	return out
}

// plain tells what the chapter says of a short text, rule by rule.
func plain(rule int, s string) (string, bool) {
	if rule == api.RuleIgnore {
		return fold.Fold(s), fold.Fold(s) != ""
	}
	if rule == api.RuleExact {
		return fold.Blanks(s), fold.Blanks(s) != ""
	}
	if rule == api.RuleInt {
		return fold.Int(s)
	}
	if rule == api.RuleDN {
		norm, err := dn.Norm(s)
		return norm, err == api.OK
	}
	return s, rule == api.RuleOctet
}

func TestNormOfAll(t *testing.T) {
	for _, s := range texts("A=, -0b\xff", 5) {
		for _, rule := range all {
			got, ok := Norm(rule, s)
			if want, is := plain(rule, s); got != want || ok != is {
				t.Fatalf("Norm by %d of %q: %q, %t", rule, s, got, ok)
			}
			if again, is := Norm(rule, got); ok && (again != got || !is) {
				t.Fatalf("Norm of Norm by %d of %q: %q, %t", rule, s, again, is)
			}
		}
	}
}

func TestEqual(t *testing.T) {
	for _, c := range []struct {
		rule int
		a, b string
		want int
	}{
		{api.RuleIgnore, "A  b", "a B", api.True},
		{api.RuleIgnore, " a b ", "A B", api.True},
		{api.RuleIgnore, "a b", "ab", api.False},
		{api.RuleIgnore, "7", "07", api.False},
		{api.RuleIgnore, "a\t", "a", api.False},
		{api.RuleIgnore, "\u00c4", "\u00e4", api.False},
		{api.RuleExact, "A", "a", api.False},
		{api.RuleExact, "A", "A", api.True},
		{api.RuleExact, " A  b ", "A b", api.True},
		{api.RuleInt, "007", "7", api.True},
		{api.RuleInt, "-0", "0", api.True},
		{api.RuleInt, "7", "-7", api.False},
		{api.RuleInt, "1", "10", api.False},
		{api.RuleInt, nines, "0", api.False},
		{api.RuleInt, nines, nines, api.True},
		{api.RuleOctet, "", "", api.True},
		{api.RuleOctet, "", " ", api.False},
		{api.RuleOctet, "a", "A", api.False},
		{api.RuleOctet, "a  b", "a b", api.False},
		{api.RuleOctet, "7", "07", api.False},
		{api.RuleOctet, "a\x00", "a\x00", api.True},
		{api.RuleDN, "CN = a", "cn=A", api.True},
		{api.RuleDN, "a=1+b=2", "B=2+A=1", api.True},
		{api.RuleDN, "", "", api.True},
		{api.RuleDN, "", "cn=a", api.False},
		{api.RuleDN, "cn=a,dc=b", "dc=b,cn=a", api.False},
		// One of them, or both, is no value.
		{api.RuleIgnore, "", "a", api.Undef},
		{api.RuleIgnore, "a", "", api.Undef},
		{api.RuleIgnore, "", "", api.Undef},
		{api.RuleIgnore, "  ", " ", api.Undef},
		{api.RuleExact, " ", "a", api.Undef},
		{api.RuleExact, "a", " ", api.Undef},
		{api.RuleExact, " ", " ", api.Undef},
		{api.RuleInt, "x", "1", api.Undef},
		{api.RuleInt, "1", "x", api.Undef},
		{api.RuleInt, "x", "x", api.Undef},
		{api.RuleInt, "0", "", api.Undef},
		{api.RuleDN, "cn", "", api.Undef},
		{api.RuleDN, "cn=a", "cn=a,", api.Undef},
		{api.RuleDN, "x", "x", api.Undef},
		{api.RuleOctet, strings.Repeat("a", 4096), strings.Repeat("a", 4096), api.True},
		{api.RuleOctet, strings.Repeat("a", 4097), strings.Repeat("a", 4097), api.Undef},
		{api.RuleOctet, "a", strings.Repeat("a", 4097), api.Undef},
		{api.RuleIgnore, "a", "a" + strings.Repeat(" ", 4096), api.Undef},
	} {
		if got := Equal(c.rule, c.a, c.b); got != c.want {
			t.Errorf("Equal by %d of %.20q, %.20q: %d", c.rule, c.a, c.b, got)
		}
		if got := Equal(c.rule, c.b, c.a); got != c.want {
			t.Errorf("Equal by %d of %.20q, %.20q: %d", c.rule, c.b, c.a, got)
		}
	}
}

func TestOrder(t *testing.T) {
	for _, c := range []struct {
		rule       int
		a, b       string
		want, back int
	}{
		{api.RuleInt, "9", "10", api.True, api.False},
		{api.RuleInt, "009", "10", api.True, api.False},
		{api.RuleInt, "-10", "-9", api.True, api.False},
		{api.RuleInt, "-1", "0", api.True, api.False},
		{api.RuleInt, "-1", "1", api.True, api.False},
		{api.RuleInt, "007", "7", api.True, api.True},
		{api.RuleInt, "-0", "0", api.True, api.True},
		{api.RuleInt, "1" + strings.Repeat("0", 30), nines, api.True, api.False},
		{api.RuleInt, nines[1:] + "8", nines, api.True, api.False},
		{api.RuleInt, "-" + nines, nines, api.True, api.False},
		// By other rules numbers are texts.
		{api.RuleIgnore, "10", "9", api.True, api.False},
		{api.RuleIgnore, "-1", "-2", api.True, api.False},
		{api.RuleExact, "10", "9", api.True, api.False},
		{api.RuleExact, "-1", "-2", api.True, api.False},
		{api.RuleOctet, "10", "9", api.True, api.False},
		{api.RuleOctet, "-1", "-2", api.True, api.False},
		{api.RuleOctet, "007", "7", api.True, api.False},
		{api.RuleIgnore, "a", "B", api.True, api.False},
		{api.RuleIgnore, "A", "b", api.True, api.False},
		{api.RuleIgnore, "A  b", "a B", api.True, api.True},
		{api.RuleIgnore, "a", "ab", api.True, api.False},
		{api.RuleIgnore, "z", "\u00e4", api.True, api.False},
		{api.RuleIgnore, "a", "\xff", api.True, api.False},
		{api.RuleIgnore, "[", "A", api.True, api.False}, // as great letters they would stand the other way round
		{api.RuleExact, "B", "a", api.True, api.False},
		{api.RuleExact, "A", "[", api.True, api.False},
		{api.RuleExact, " a  b", "a b ", api.True, api.True},
		{api.RuleExact, "a", " b", api.True, api.False},
		{api.RuleOctet, " b", "a", api.True, api.False},
		{api.RuleOctet, "", "", api.True, api.True},
		{api.RuleOctet, "", "\x00", api.True, api.False},
		{api.RuleOctet, "a  b", "a b", api.True, api.False},
		// Names have no order.
		{api.RuleDN, "a=b", "a=c", api.Undef, api.Undef},
		{api.RuleDN, "a=b", "a=b", api.Undef, api.Undef},
		{api.RuleDN, "", "", api.Undef, api.Undef},
		{api.RuleDN, "a", "a=b", api.Undef, api.Undef},
		// One of them, or both, is no value.
		{api.RuleIgnore, "", "a", api.Undef, api.Undef},
		{api.RuleIgnore, " ", " ", api.Undef, api.Undef},
		{api.RuleExact, "", "a", api.Undef, api.Undef},
		{api.RuleExact, "", "", api.Undef, api.Undef},
		{api.RuleInt, "", "1", api.Undef, api.Undef},
		{api.RuleInt, "x", "1", api.Undef, api.Undef},
		{api.RuleInt, "x", "x", api.Undef, api.Undef},
		{api.RuleInt, nines + "9", nines, api.Undef, api.Undef},
		{api.RuleOctet, "a", strings.Repeat("a", 4096), api.True, api.False},
		{api.RuleOctet, "a", strings.Repeat("a", 4097), api.Undef, api.Undef},
	} {
		if got := Order(c.rule, c.a, c.b); got != c.want {
			t.Errorf("Order by %d of %.20q, %.20q: %d", c.rule, c.a, c.b, got)
		}
		if got := Order(c.rule, c.b, c.a); got != c.back {
			t.Errorf("Order by %d of %.20q, %.20q: %d", c.rule, c.b, c.a, got)
		}
	}
}

// number tells the number that s is.
func number(s string) *big.Int {
	n, _ := new(big.Int).SetString(s, 10)
	return n
}

// order tells -1, 0 or 1: how two texts stand to one another as they count.
func order(rule int, x, y string) int {
	if rule == api.RuleInt {
		return number(x).Cmp(number(y))
	}
	return strings.Compare(x, y)
}

// wish tells as a truth whether b holds.
func wish(b bool) int {
	if b {
		return 1
	}
	return 0
}

func TestEqualAndOrderOfAll(t *testing.T) {
	some := append(texts("aB -10", 3), "a=b", "A=b", "a=B,a=b", "-1111", "99", "0099", "\xff", "\u00e4")
	for _, rule := range all {
		for _, a := range some {
			for _, b := range some {
				equal, ordered := 2, 2
				x, is := plain(rule, a)
				y, isToo := plain(rule, b)
				if is && isToo {
					equal = wish(x == y)
				}
				if is && isToo && rule != api.RuleDN {
					ordered = wish(order(rule, x, y) <= 0)
				}
				if got := Equal(rule, a, b); got != equal {
					t.Fatalf("Equal by %d of %q, %q: %d", rule, a, b, got)
				}
				if got := Order(rule, a, b); got != ordered {
					t.Fatalf("Order by %d of %q, %q: %d", rule, a, b, got)
				}
			}
		}
	}
}

func TestOtherRules(t *testing.T) {
	for _, rule := range others {
		for _, s := range []string{"", "a", "7", "cn=a"} {
			if got := Equal(rule, s, s); got != api.Undef {
				t.Errorf("Equal by %d of %q: %d", rule, s, got)
			}
			if got := Order(rule, s, s); got != api.Undef {
				t.Errorf("Order by %d of %q: %d", rule, s, got)
			}
			if got := Subs(rule, s, api.Subs{Head: "a"}); got != api.Undef {
				t.Errorf("Subs by %d of %q: %d", rule, s, got)
			}
		}
	}
}

// mids tells n middles of s.
func mids(s string, n int) []string { return slices.Repeat([]string{s}, n) }

var subs = []struct {
	rule int
	s    string
	p    api.Subs
	want int
}{
	{api.RuleIgnore, "abcabc", api.Subs{Head: "A", Mids: []string{"ca"}, Tail: "c"}, api.True},
	{api.RuleExact, "abcabc", api.Subs{Head: "A", Mids: []string{"ca"}, Tail: "c"}, api.False},
	{api.RuleExact, "abcabc", api.Subs{Head: "a", Mids: []string{"ca"}, Tail: "c"}, api.True},
	// One part alone.
	{api.RuleIgnore, "ABC", api.Subs{Head: "aB"}, api.True},
	{api.RuleIgnore, "ABC", api.Subs{Head: "b"}, api.False},
	{api.RuleIgnore, "ABC", api.Subs{Head: "abc"}, api.True},
	{api.RuleIgnore, "ABC", api.Subs{Head: "abcd"}, api.False},
	{api.RuleIgnore, "ABC", api.Subs{Tail: "Bc"}, api.True},
	{api.RuleIgnore, "ABC", api.Subs{Tail: "b"}, api.False},
	{api.RuleIgnore, "ABC", api.Subs{Tail: "abc"}, api.True},
	{api.RuleIgnore, "ABC", api.Subs{Tail: "xabc"}, api.False},
	{api.RuleIgnore, "ABC", api.Subs{Mids: []string{"b"}}, api.True},
	{api.RuleIgnore, "ABC", api.Subs{Mids: []string{"a"}}, api.True},
	{api.RuleIgnore, "ABC", api.Subs{Mids: []string{"c"}}, api.True},
	{api.RuleIgnore, "abc", api.Subs{Mids: []string{"ABC"}}, api.True},
	{api.RuleIgnore, "abc", api.Subs{Mids: []string{"ac"}}, api.False},
	{api.RuleIgnore, "abc", api.Subs{Mids: []string{"x"}}, api.False},
	{api.RuleExact, "ABC", api.Subs{Head: "AB"}, api.True},
	{api.RuleExact, "ABC", api.Subs{Head: "Ab"}, api.False},
	{api.RuleExact, "ABC", api.Subs{Mids: []string{"B"}}, api.True},
	{api.RuleExact, "ABC", api.Subs{Mids: []string{"b"}}, api.False},
	{api.RuleExact, "ABC", api.Subs{Tail: "C"}, api.True},
	{api.RuleExact, "ABC", api.Subs{Tail: "c"}, api.False},
	// Parts share no byte.
	{api.RuleExact, "ab", api.Subs{Head: "ab", Tail: "b"}, api.False},
	{api.RuleExact, "abb", api.Subs{Head: "ab", Tail: "b"}, api.True},
	{api.RuleExact, "aba", api.Subs{Head: "ab", Tail: "ba"}, api.False},
	{api.RuleExact, "abba", api.Subs{Head: "ab", Tail: "ba"}, api.True},
	{api.RuleExact, "abc", api.Subs{Head: "ab", Mids: []string{"b"}}, api.False},
	{api.RuleExact, "abc", api.Subs{Mids: []string{"b"}, Tail: "bc"}, api.False},
	{api.RuleExact, "abc", api.Subs{Mids: []string{"ab", "bc"}}, api.False},
	{api.RuleExact, "aa", api.Subs{Mids: []string{"a", "a"}}, api.True},
	{api.RuleExact, "aa", api.Subs{Mids: []string{"a", "a", "a"}}, api.False},
	{api.RuleExact, "aa", api.Subs{Head: "a", Mids: []string{"a"}, Tail: "a"}, api.False},
	{api.RuleExact, "aaa", api.Subs{Head: "a", Mids: []string{"a"}, Tail: "a"}, api.True},
	{api.RuleExact, "aaa", api.Subs{Head: "aa", Tail: "aa"}, api.False},
	// One behind the other.
	{api.RuleExact, "abcd", api.Subs{Mids: []string{"b", "c"}}, api.True},
	{api.RuleExact, "abcd", api.Subs{Mids: []string{"c", "b"}}, api.False},
	{api.RuleExact, "abcb", api.Subs{Mids: []string{"c", "b"}}, api.True},
	{api.RuleExact, "abaab", api.Subs{Mids: []string{"aab"}}, api.True},
	{api.RuleExact, "abaab", api.Subs{Mids: []string{"ab", "ab"}}, api.True},
	{api.RuleExact, "ab ba", api.Subs{Head: "ba"}, api.False},
	{api.RuleExact, "abab", api.Subs{Head: "ab", Mids: []string{"ab"}}, api.True},
	{api.RuleExact, "abab", api.Subs{Head: "ab", Mids: []string{"ab"}, Tail: "b"}, api.False},
	// s is asked as it counts, parts with their blanks.
	{api.RuleIgnore, "  A  B  ", api.Subs{Head: "a b"}, api.True},
	{api.RuleIgnore, "  A  B  ", api.Subs{Head: "a  b"}, api.False},
	{api.RuleIgnore, "  A  B  ", api.Subs{Head: " a"}, api.False},
	{api.RuleIgnore, "  A  B  ", api.Subs{Tail: "b "}, api.False},
	{api.RuleIgnore, "  A  B  ", api.Subs{Head: "A ", Tail: "B"}, api.True},
	{api.RuleIgnore, "  A  B  ", api.Subs{Head: "A ", Tail: " B"}, api.False},
	{api.RuleIgnore, "  A  B  ", api.Subs{Mids: []string{" "}}, api.True},
	{api.RuleIgnore, "  A  B  ", api.Subs{Mids: []string{" ", " "}}, api.False},
	{api.RuleExact, "  A  B  ", api.Subs{Head: "A", Mids: []string{" "}, Tail: "B"}, api.True},
	{api.RuleExact, "  A  B  ", api.Subs{Mids: []string{"  "}}, api.False},
	// Letters are A to Z alone; bytes that are no UTF-8 are bytes.
	{api.RuleIgnore, "\u00c4b", api.Subs{Head: "\u00e4"}, api.False},
	{api.RuleIgnore, "\u00c4b", api.Subs{Head: "\xc3"}, api.True},
	{api.RuleIgnore, "\u00c4b", api.Subs{Tail: "\x84B"}, api.True},
	{api.RuleIgnore, "a\xffb", api.Subs{Mids: []string{"\xff"}}, api.True},
	{api.RuleIgnore, "a\xffb", api.Subs{Mids: []string{"\xfe"}}, api.False},
	// As much as may be asked for.
	{api.RuleExact, strings.Repeat("a", 16), api.Subs{Mids: mids("a", 16)}, api.True},
	{api.RuleExact, strings.Repeat("a", 15), api.Subs{Mids: mids("a", 16)}, api.False},
	{api.RuleExact, strings.Repeat("a", 18), api.Subs{Head: "a", Mids: mids("a", 16), Tail: "a"}, api.True},
	{api.RuleExact, strings.Repeat("a", 17), api.Subs{Head: "a", Mids: mids("a", 16), Tail: "a"}, api.False},
	{api.RuleIgnore, strings.Repeat("a", 4096), api.Subs{Head: strings.Repeat("A", 4096)}, api.True},
	{api.RuleIgnore, strings.Repeat("a", 4096), api.Subs{Head: strings.Repeat("A", 4097)}, api.False},
	{api.RuleIgnore, "a", api.Subs{Mids: []string{strings.Repeat("a", 1<<16)}}, api.False},
	// Too much, or nothing.
	{api.RuleExact, strings.Repeat("a", 17), api.Subs{Mids: mids("a", 17)}, api.Undef},
	{api.RuleIgnore, strings.Repeat("a", 17), api.Subs{Mids: mids("a", 17)}, api.Undef},
	{api.RuleIgnore, "b", api.Subs{Head: "a", Mids: mids("a", 17)}, api.Undef},
	{api.RuleIgnore, "abc", api.Subs{}, api.Undef},
	{api.RuleIgnore, "abc", api.Subs{Mids: []string{}}, api.Undef},
	{api.RuleExact, "abc", api.Subs{}, api.Undef},
	{api.RuleIgnore, "abc", api.Subs{Mids: []string{""}}, api.Undef},
	{api.RuleIgnore, "abc", api.Subs{Head: "a", Mids: []string{"b", ""}, Tail: "c"}, api.Undef},
	{api.RuleExact, "abc", api.Subs{Head: "x", Mids: []string{"", "b"}}, api.Undef},
	{api.RuleExact, "abc", api.Subs{Tail: "x", Mids: []string{""}}, api.Undef},
	// No value of the rule.
	{api.RuleIgnore, "", api.Subs{Head: "a"}, api.Undef},
	{api.RuleIgnore, "  ", api.Subs{Mids: []string{" "}}, api.Undef},
	{api.RuleExact, "", api.Subs{Tail: "a"}, api.Undef},
	{api.RuleExact, " ", api.Subs{Head: " "}, api.Undef},
	{api.RuleIgnore, strings.Repeat("a", 4097), api.Subs{Head: "a"}, api.Undef},
	{api.RuleExact, strings.Repeat(" ", 4096) + "a", api.Subs{Head: "a"}, api.Undef},
	// No rule of texts.
	{api.RuleInt, "123", api.Subs{Head: "1"}, api.Undef},
	{api.RuleInt, "123", api.Subs{Head: "2"}, api.Undef},
	{api.RuleOctet, "abc", api.Subs{Head: "a"}, api.Undef},
	{api.RuleOctet, "abc", api.Subs{Mids: []string{"x"}}, api.Undef},
	{api.RuleDN, "cn=a", api.Subs{Head: "cn"}, api.Undef},
	{api.RuleDN, "cn=a", api.Subs{Tail: "x"}, api.Undef},
}

func TestSubs(t *testing.T) {
	for _, c := range subs {
		if got := Subs(c.rule, c.s, c.p); got != c.want {
			t.Errorf("Subs by %d of %.20q, %.40q: %d", c.rule, c.s, c.p, got)
		}
	}
}

// stands tells whether parts stand in s, one behind the other, by trying each place.
func stands(s string, parts []string, tail string) bool {
	if len(parts) == 0 {
		return strings.HasSuffix(s, tail)
	}
	for i := range len(s) + 1 {
		if strings.HasPrefix(s[i:], parts[0]) && stands(s[i+len(parts[0]):], parts[1:], tail) {
			return true
		}
	}
	return false
}

// plainSubs tells what Subs of a text that counts as it stands must be.
func plainSubs(s string, p api.Subs) int {
	return wish(strings.HasPrefix(s, p.Head) && stands(s[len(p.Head):], p.Mids, p.Tail))
}

func TestSubsOfAll(t *testing.T) {
	whole, ends := texts("ab", 7)[1:], texts("ab", 2)
	middles := [][]string{nil}
	for _, m := range ends[1:] {
		middles = append(middles, []string{m})
		for _, n := range ends[1:] {
			middles = append(middles, []string{m, n})
		}
	}
	middles = append(middles, []string{"a", "ba", "a"}, []string{"ab", "a", "b"}, []string{"b", "b", "b", "b"})
	for _, head := range ends {
		for _, tail := range ends {
			for _, m := range middles {
				p := api.Subs{Head: head, Mids: m, Tail: tail}
				if head+tail == "" && len(m) == 0 {
					continue
				}
				great := api.Subs{Head: strings.ToUpper(head), Mids: strings.Fields(strings.ToUpper(strings.Join(m, " "))), Tail: strings.ToUpper(tail)}
				for _, s := range whole {
					want := plainSubs(s, p)
					if got := Subs(api.RuleExact, s, p); got != want {
						t.Fatalf("Subs by RuleExact of %q, %q: %d", s, p, got)
					}
					if got := Subs(api.RuleIgnore, s, great); got != want {
						t.Fatalf("Subs by RuleIgnore of %q, %q: %d", s, great, got)
					}
				}
			}
		}
	}
}

func TestSubsStay(t *testing.T) {
	p := api.Subs{Head: "A", Mids: []string{"B", "C"}, Tail: "D"}
	if got := Subs(api.RuleIgnore, "abcd", p); got != api.True {
		t.Errorf("Subs: %d", got)
	}
	if p.Head != "A" || !slices.Equal(p.Mids, []string{"B", "C"}) || p.Tail != "D" {
		t.Errorf("what was handed in is now %q", p)
	}
}

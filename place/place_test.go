package place

import (
	"slices"
	"strconv"
	"strings"
	"testing"

	"bothy/api"
	"bothy/dn"
)

// row tells n parts, each another one, with commas between.
func row(n int) string {
	var l []string
	for i := range n {
		l = append(l, "a=v"+strconv.Itoa(i))
	}
	return strings.Join(l, ",")
}

// long tells a normal name of parts parts that has size bytes.
func long(parts, size int) string {
	letters := size - 3*parts + 1
	var l []string
	for i := range parts {
		n := letters / parts
		if i < letters%parts {
			n++
		}
		l = append(l, "a="+strings.Repeat("v", n))
	}
	return strings.Join(l, ",")
}

// names are normal names, and their parts.
var names = []struct {
	s     string
	parts []string
}{
	{"", nil},
	{"dc=b", []string{"dc=b"}},
	{"cn=a,dc=b", []string{"cn=a", "dc=b"}},
	{"cn=a,ou=c d,dc=b", []string{"cn=a", "ou=c d", "dc=b"}},
	{"a=b,a=b,a=b", []string{"a=b", "a=b", "a=b"}},
	{"a=1+b=2,dc=b", []string{"a=1+b=2", "dc=b"}},
	{"dc=b,a=1+b=2+c=3", []string{"dc=b", "a=1+b=2+c=3"}},
	{`cn=a\,b,dc=b`, []string{`cn=a\,b`, "dc=b"}},
	{`cn=a\,dc\=b`, []string{`cn=a\,dc\=b`}},
	{`cn=\,,dc=\,`, []string{`cn=\,`, `dc=\,`}},
	{`cn=\\,dc=b`, []string{`cn=\\`, "dc=b"}},
	{`cn=\\\,,dc=b\\\\`, []string{`cn=\\\,`, `dc=b\\\\`}},
	{`cn=\+a\+b\=c,dc=b`, []string{`cn=\+a\+b\=c`, "dc=b"}},
	{`cn=a\"\<\>\;,dc=b`, []string{`cn=a\"\<\>\;`, "dc=b"}},
	{`cn=\#a#,dc=b`, []string{`cn=\#a#`, "dc=b"}},
	{`cn=\00\1f\7f,dc=\0a`, []string{`cn=\00\1f\7f`, `dc=\0a`}},
	{"cn=\u00c4\xff,dc=b", []string{"cn=\u00c4\xff", "dc=b"}},
	{"cn=-1.5/@,a-9=0", []string{"cn=-1.5/@", "a-9=0"}},
}

// wrongs are texts that are not normal.
var wrongs = []string{
	"CN=a", "cn=A", "cn=a,DC=b", "CN=a,dc=b", "cn=a,dc=B",
	" ", " cn=a", "cn=a ", "cn =a", "cn= a", "cn=a, dc=b", "cn=a ,dc=b", "cn=a,dc=b ", "cn=a  b",
	`cn=\ a`, `cn=a\ `, `cn=\ `, `cn=\20`, `cn=a\ b`,
	"cn=a=b", `cn=\+a\+b=c`, `cn=a\#`, `cn=\61`, `cn=\2c`, `cn=\0A`, `cn=\23`, "cn=a\x00", "cn=\x7f", `cn=\c3`,
	"b=1+a=1", "b=1+a=1,dc=b", "a=1+a=2", "a=1+A=2",
	"a", "=", "a=", "=a", ",", "+", `\`, "a=b,", ",a=b", "a=b,,c=d", "a=b+", "+a=b", "a=b,c", "a=b,c=",
	"a=#b", `a="b"`, "a=b;c=d", `a=b\`, `a=b\g`, "1=a", "a_b=c",
	"a=" + strings.Repeat("v", 257), strings.Repeat("a", 65) + "=v",
}

// placeless are wrongs, and others that are so as they have too much of something.
func placeless() []string {
	var pairs []string
	for i := range 9 {
		pairs = append(pairs, "a"+strconv.Itoa(i)+"=v")
	}
	return append(slices.Clone(wrongs), row(33), long(20, 4097), strings.Join(pairs, "+"))
}

func TestPlacesOfNames(t *testing.T) {
	for _, c := range names {
		if got := Depth(c.s); got != len(c.parts) {
			t.Errorf("Depth of %q: %d", c.s, got)
		}
		leaf, parent := "", ""
		if len(c.parts) > 0 {
			leaf, parent = c.parts[0], strings.Join(c.parts[1:], ",")
		}
		if got, ok := Leaf(c.s); got != leaf || ok != (c.s != "") {
			t.Errorf("Leaf of %q: %q, %t", c.s, got, ok)
		}
		if got, ok := Parent(c.s); got != parent || ok != (c.s != "") {
			t.Errorf("Parent of %q: %q, %t", c.s, got, ok)
		}
		if !Under(c.s, c.s) || !Under(c.s, "") || !Under(c.s, parent) {
			t.Errorf("%q is not under itself, or what is above", c.s)
		}
	}
}

func TestNotNormal(t *testing.T) {
	for _, s := range placeless() {
		if got := Depth(s); got != -1 {
			t.Errorf("Depth of %q: %d", s, got)
		}
		if got, ok := Leaf(s); got != "" || ok {
			t.Errorf("Leaf of %q: %q, %t", s, got, ok)
		}
		if got, ok := Parent(s); got != "" || ok {
			t.Errorf("Parent of %q: %q, %t", s, got, ok)
		}
		if Under(s, s) || Under(s, "") || Under("dc=b", s) || Under("", s) || Under(s, "dc=b") || Under(s+",dc=b", "dc=b") {
			t.Errorf("%q is under something, or something under it", s)
		}
		for _, l := range [][2]string{{s, ""}, {s, "dc=b"}, {"cn=a", s}, {s, s}, {"", s}} {
			if got, err := Join(l[0], l[1]); got != "" || err != api.ErrName {
				t.Errorf("Join of %q: %q, %d", l, got, err)
			}
		}
		for _, l := range [][3]string{
			{s, s, ""}, {s, s, "dc=b"}, {s, "", ""}, {s, "", "dc=b"}, {"dc=b", s, ""}, {"cn=a," + s, s, "dc=b"},
			{"cn=a,dc=b", "dc=b", s}, {"cn=a", "", s}, {"cn=a", "cn=a", s}, {"", "", s}, {s, s, s},
		} {
			if got, ok := Move(l[0], l[1], l[2]); got != "" || ok {
				t.Errorf("Move of %q: %q, %t", l, got, ok)
			}
		}
	}
}

func TestUnder(t *testing.T) {
	for _, c := range []struct {
		s, base string
		want    bool
	}{
		{"", "", true},
		{"dc=b", "", true},
		{"", "dc=b", false},
		{"dc=b", "dc=b", true},
		{"cn=a,dc=b", "dc=b", true},
		{"dc=b", "cn=a,dc=b", false},
		{"cn=x,cn=a,dc=b", "dc=b", true},
		{"cn=x,cn=a,dc=b", "cn=a,dc=b", true},
		{"cn=x,cn=a,dc=b", "cn=a", false},
		{"cn=x,cn=a,dc=b", "cn=x", false},
		{"cn=x,cn=a,dc=b", "cn=x,dc=b", false},
		{"cn=a,dc=b", "dc=c", false},
		{"dc=bb", "dc=b", false},
		{"adc=b", "dc=b", false},
		{"cn=a,adc=b", "dc=b", false},
		{"cn=a+dc=b", "dc=b", false},
		{"cn=a+dc=b", "cn=a", false},
		{"cn=x,cn=a+dc=b", "dc=b", false},
		{"cn=x,cn=a+dc=b", "cn=a+dc=b", true},
		{`cn=a\,dc\=b`, "dc=b", false},
		{`cn=a\,b`, "b", false},
		{`cn=x\,,dc=b`, "dc=b", true},
		{`cn=x\\,dc=b`, "dc=b", true},
		{`cn=x\\\,dc\=b`, `dc\=b`, false},
		{`cn=x,dc=a\,b`, `dc=a\,b`, true},
		{`cn=x,dc=a\,b`, `dc=a`, false},
		{"CN=a,dc=b", "dc=b", false},
		{"cn=a,dc=b", "DC=b", false},
		{"cn=a, dc=b", "dc=b", false},
		{"cn=a,dc=b", " dc=b", false},
		{"cn=a,dc=b", ",dc=b", false},
		{"a=b,a=b,a=b", "a=b,a=b", true},
		{"a=b,a=b", "a=b,a=b,a=b", false},
		{row(32), "a=v31", true},
		{row(32), row(32), true},
		{row(32), "", true},
		{row(32), row(31), false},
	} {
		if got := Under(c.s, c.base); got != c.want {
			t.Errorf("Under of %q, %q: %t", c.s, c.base, got)
		}
	}
}

func TestJoin(t *testing.T) {
	for _, c := range []struct {
		rdn, above, want string
		err              api.Errno
	}{
		{"cn=a", "dc=b", "cn=a,dc=b", api.OK},
		{"cn=a", "", "cn=a", api.OK},
		{"cn=a", "ou=c,dc=b", "cn=a,ou=c,dc=b", api.OK},
		{"cn=a", "cn=a", "cn=a,cn=a", api.OK},
		{"a=1+b=2", "dc=b", "a=1+b=2,dc=b", api.OK},
		{`cn=a\,b`, "dc=b", `cn=a\,b,dc=b`, api.OK},
		{`cn=\,`, "dc=b", `cn=\,,dc=b`, api.OK},
		{`cn=\,`, "", `cn=\,`, api.OK},
		{`cn=\\`, "", `cn=\\`, api.OK},
		// No part, or more than one.
		{"", "", "", api.ErrName},
		{"", "dc=b", "", api.ErrName},
		{"cn=a,cn=b", "dc=b", "", api.ErrName},
		{"cn=a,cn=b", "", "", api.ErrName},
		{row(32), "", "", api.ErrName},
		// Too much.
		{"cn=a", row(31), "cn=a," + row(31), api.OK},
		{"cn=a", row(32), "", api.ErrLong},
		{"cn=a", long(20, 4091), "cn=a," + long(20, 4091), api.OK},
		{"cn=a", long(20, 4092), "", api.ErrLong},
		{"cn=a", long(20, 4096), "", api.ErrLong},
		{"cn=a", long(32, 4096), "", api.ErrLong},
		{"cn=a", long(31, 4091), "cn=a," + long(31, 4091), api.OK},
		// The name is asked ahead of how long it is.
		{"CN=a", row(32), "", api.ErrName},
		{"CN=a", long(20, 4096), "", api.ErrName},
		{"cn=a,cn=b", row(31), "", api.ErrName},
		{"cn=a,cn=b", long(20, 4096), "", api.ErrName},
		{"", row(32), "", api.ErrName},
		{"cn=a", row(33), "", api.ErrName},
		{"cn=a", long(20, 4097), "", api.ErrName},
	} {
		if got, err := Join(c.rdn, c.above); got != c.want || err != c.err {
			t.Errorf("Join of %q, %q: %q, %d", c.rdn, c.above, got, err)
		}
	}
}

func TestMove(t *testing.T) {
	for _, c := range []struct {
		s, from, to, want string
		ok                bool
	}{
		{"cn=a,dc=b", "dc=b", "dc=c", "cn=a,dc=c", true},
		{"dc=b", "dc=b", "dc=c", "dc=c", true},
		{"dc=b", "dc=b", "dc=b", "dc=b", true},
		{"cn=a,dc=b", "cn=a,dc=b", "ou=x,dc=c", "ou=x,dc=c", true},
		{"cn=x,cn=a,dc=b", "cn=a,dc=b", "ou=x,dc=c", "cn=x,ou=x,dc=c", true},
		{"cn=x,cn=a,dc=b", "dc=b", "ou=x,dc=c", "cn=x,cn=a,ou=x,dc=c", true},
		{"dc=b,dc=b", "dc=b", "dc=c", "dc=b,dc=c", true},
		// Nothing is put in place, or something in place of nothing.
		{"cn=a,dc=b", "dc=b", "", "cn=a", true},
		{"cn=a,dc=b", "cn=a,dc=b", "", "", true},
		{"cn=a,dc=b", "", "dc=c", "cn=a,dc=b,dc=c", true},
		{"cn=a,dc=b", "", "", "cn=a,dc=b", true},
		{"", "", "dc=c", "dc=c", true},
		{"", "", "", "", true},
		{`cn=\,`, "", "dc=c", `cn=\,,dc=c`, true},
		{`cn=\,,dc=b`, "dc=b", "dc=c", `cn=\,,dc=c`, true},
		{`cn=\,,dc=b`, "dc=b", "", `cn=\,`, true},
		{`cn=\\,dc=b`, "dc=b", "", `cn=\\`, true},
		{"a=1+b=2,dc=b", "dc=b", "c=3+d=4", "a=1+b=2,c=3+d=4", true},
		// It does not stand there.
		{"", "dc=b", "dc=c", "", false},
		{"dc=b", "cn=a,dc=b", "dc=c", "", false},
		{"cn=a,dc=b", "cn=a", "dc=c", "", false},
		{"cn=a,dc=bb", "dc=b", "dc=c", "", false},
		{"cn=a+dc=b", "dc=b", "dc=c", "", false},
		{`cn=a\,dc\=b`, `dc\=b`, "dc=c", "", false},
		{"cn=a,DC=b", "DC=b", "dc=c", "", false},
		{"cn=a,dc=b", "DC=b", "dc=c", "", false},
		{"cn=a,dc=b", "dc=b", "DC=c", "", false},
		// Too much.
		{"cn=a,dc=b", "dc=b", row(31), "cn=a," + row(31), true},
		{"cn=a,dc=b", "dc=b", row(32), "", false},
		{"dc=b", "dc=b", row(32), row(32), true},
		{"dc=b", "dc=b", row(33), "", false},
		{row(32), "a=v31", "dc=b", row(31) + ",dc=b", true},
		{row(32), "a=v31", "dc=b,dc=c", "", false},
		{row(32), "a=v30,a=v31", "dc=b,dc=c", row(30) + ",dc=b,dc=c", true},
		{row(32), "", "", row(32), true},
		{row(32), "", "dc=b", "", false},
		{"cn=a,dc=b", "dc=b", long(20, 4091), "cn=a," + long(20, 4091), true},
		{"cn=a,dc=b", "dc=b", long(20, 4092), "", false},
		{"dc=b", "dc=b", long(20, 4096), long(20, 4096), true},
		{"dc=b", "dc=b", long(20, 4097), "", false},
		{long(20, 4096), long(20, 4096), "dc=b", "dc=b", true},
		{long(20, 4096), "", "a=b", "", false},
		{long(20, 4092), "", "a=b", long(20, 4092) + ",a=b", true},
		{long(20, 4093), "", "a=b", "", false},
	} {
		if got, ok := Move(c.s, c.from, c.to); got != c.want || ok != c.ok {
			t.Errorf("Move of %q, %q, %q: %q, %t", c.s, c.from, c.to, got, ok)
		}
	}
}

// slow tells the parts of s, put one by one, and whether s is normal.
func slow(s string) ([]string, bool) {
	if norm, err := dn.Norm(s); err != api.OK || norm != s {
		return nil, false
	}
	d, _ := dn.Read(s)
	var l []string
	for i := range d {
		part, _ := dn.Put(d[i : i+1])
		l = append(l, part)
	}
	return l, true
}

// each calls f with all texts of at most n of these letters.
func each(letters string, n int, f func(string)) {
	f("")
	var more func(string)
	more = func(s string) {
		if len(s) == n {
			return
		}
		for i := range len(letters) {
			f(s + letters[i:i+1])
			more(s + letters[i:i+1])
		}
	}
	more("")
}

func TestAllShort(t *testing.T) {
	normal := 0
	each(`ab=,\+ `, 7, func(s string) {
		parts, ok := slow(s)
		depth := -1
		leaf, parent, has := "", "", false
		if ok {
			normal++
			depth = len(parts)
		}
		if len(parts) > 0 {
			leaf, parent, has = parts[0], strings.Join(parts[1:], ","), true
		}
		if got := Depth(s); got != depth {
			t.Errorf("Depth of %q: %d", s, got)
		}
		if got, ok := Leaf(s); got != leaf || ok != has {
			t.Errorf("Leaf of %q: %q, %t", s, got, ok)
		}
		if got, ok := Parent(s); got != parent || ok != has {
			t.Errorf("Parent of %q: %q, %t", s, got, ok)
		}
	})
	if normal < 100 {
		t.Errorf("just %d names", normal)
	}
}

// lists are all lists of at most n of these texts.
func lists(of []string, n int) [][]string {
	out := [][]string{nil}
	for from := 0; n > 0; n-- {
		to := len(out)
		for _, l := range out[from:to] {
			for _, s := range of {
				out = append(out, append(slices.Clone(l), s))
			}
		}
		from = to
	}
	return out
}

func TestAllLists(t *testing.T) {
	of := []string{"a=b", `a=\,a\=b`, `a=\\`, `a=\,`, "a=b+b=a", "A=b"}
	tos := lists(of, 2)
	for _, x := range lists(of, 3) {
		for _, y := range tos {
			s, base := strings.Join(x, ","), strings.Join(y, ",")
			normal := !slices.Contains(x, "A=b") && !slices.Contains(y, "A=b")
			under := normal && len(x) >= len(y) && slices.Equal(x[max(0, len(x)-len(y)):], y)
			if got := Under(s, base); got != under {
				t.Errorf("Under of %q, %q: %t", s, base, got)
			}
			joined, err := Join(s, base)
			if len(x) == 1 && normal {
				if want := strings.Join(append(slices.Clone(x), y...), ","); joined != want || err != api.OK {
					t.Errorf("Join of %q, %q: %q, %d", s, base, joined, err)
				}
			} else if joined != "" || err != api.ErrName {
				t.Errorf("Join of %q, %q: %q, %d", s, base, joined, err)
			}
			for _, z := range tos {
				want, ok := "", under && !slices.Contains(z, "A=b")
				if ok {
					want = strings.Join(append(slices.Clone(x[:len(x)-len(y)]), z...), ",")
				}
				to := strings.Join(z, ",")
				if got, is := Move(s, base, to); got != want || is != ok {
					t.Errorf("Move of %q, %q, %q: %q, %t", s, base, to, got, is)
				}
			}
		}
	}
}

func TestTogether(t *testing.T) {
	for _, c := range names {
		leaf, ok := Leaf(c.s)
		parent, _ := Parent(c.s)
		if !ok {
			continue
		}
		if got, err := Join(leaf, parent); got != c.s || err != api.OK {
			t.Errorf("Join of %q, %q: %q, %d", leaf, parent, got, err)
		}
		if got, ok := Move(c.s, parent, "dc=new"); got != leaf+",dc=new" || !ok {
			t.Errorf("Move of %q: %q, %t", c.s, got, ok)
		}
	}
}

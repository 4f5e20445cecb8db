package mods

import (
	"slices"
	"strconv"
	"strings"
	"testing"

	"bothy/api"
	"bothy/dn"
	"bothy/rules"
	"bothy/schema"
)

// namings are entries, and whether their own part tells of their values.
var namings = []struct {
	what string
	e    api.Entry
	want int
}{
	{"one pair", of("cn=a", at("cn", "a")), api.Success},
	{"one pair below another name", of("cn=a,dc=b", at("cn", "a")), api.Success},
	{"what is above is not asked for", of("cn=a,zz=b", at("cn", "a")), api.Success},
	{"one of several values", of("cn=a", at("cn", "b", "c", "a")), api.Success},
	{"a value in great letters", of("cn=a", at("cn", "A")), api.Success},
	{"a value with blanks", of("cn=a b", at("cn", " A   b ")), api.Success},
	{"a type in great letters", of("objectclass=top", at("ObjectClass", "Top")), api.Success},
	{"a type that is there more than once", of("cn=a", at("cn", "b"), at("CN"), at("Cn", "a")), api.Success},
	{"an entry that may not be else", of("cn=a", at("zz", "z"), at("sn"), at("cn", "a", "A", "")), api.Success},
	{"two pairs", of("cn=a+sn=b,dc=b", at("sn", "B"), at("cn", "a")), api.Success},
	{"two pairs, one of them missing", of("cn=a+sn=b", at("cn", "a")), api.Naming},
	{"two pairs, the first one missing", of("cn=a+sn=b", at("sn", "b")), api.Naming},
	{"two pairs, values of the other one", of("cn=a+sn=b", at("cn", "b"), at("sn", "a")), api.Naming},
	{"two pairs, one of no type", of("cn=a+zz=b", at("cn", "a"), at("zz", "b")), api.Naming},
	{"two pairs, the first one of no type", of("aa=a+cn=b", at("cn", "b"), at("aa", "a")), api.Naming},

	{"no attributes", of("cn=a"), api.Naming},
	{"another value", of("cn=a", at("cn", "b")), api.Naming},
	{"a longer value", of("cn=a", at("cn", "ab")), api.Naming},
	{"a shorter value", of("cn=ab", at("cn", "a")), api.Naming},
	{"no values", of("cn=a", at("cn")), api.Naming},
	{"the value of another type", of("cn=a", at("sn", "a")), api.Naming},
	{"a value of the part above", of("cn=a,dc=b", at("dc", "b")), api.Naming},
	{"no such type", of("zz=a", at("zz", "a")), api.Naming},
	{"no such type, and no attributes", of("zz=a"), api.Naming},

	{"no name", of("", at("cn", "a")), api.Naming},
	{"the zero entry", api.Entry{}, api.Naming},
	{"great letters of a type", of("CN=a", at("cn", "a")), api.Naming},
	{"great letters of a value", of("cn=A", at("cn", "A")), api.Naming},
	{"great letters above", of("cn=a,dc=B", at("cn", "a")), api.Naming},
	{"blanks", of("cn=a, dc=b", at("cn", "a")), api.Naming},
	{"a blank ahead", of(" cn=a", at("cn", "a")), api.Naming},
	{"pairs that do not rise", of("sn=b+cn=a", at("cn", "a"), at("sn", "b")), api.Naming},
	{"a type twice", of("cn=a+cn=b", at("cn", "a", "b")), api.Naming},
	{"what is no name", of("cn", at("cn", "a")), api.Naming},
	{"a comma alone", of(",", at("cn", "a")), api.Naming},
	{"nothing ahead of a comma", of(",cn=a", at("cn", "a")), api.Naming},
	{"no value", of("cn=", at("cn", "")), api.Naming},
	{"bytes of none", of("\xff", at("cn", "a")), api.Naming},

	{"a comma in a value", of(`cn=a\,b,dc=b`, at("cn", "a,b")), api.Success},
	{"a backslash in a value is none of it", of(`cn=a\,b,dc=b`, at("cn", `a\,b`)), api.Naming},
	{"a part of a value with a comma", of(`cn=a\,b`, at("cn", "a")), api.Naming},
	{"a plus in a value", of(`cn=a\+sn\=b`, at("cn", "a+sn=b")), api.Success},
	{"a plus in a value, and the pairs as it might be read", of(`cn=a\+sn\=b`, at("cn", "a"), at("sn", "b")), api.Naming},
	{"digits of a byte", of(`cn=\00\7f`, at("cn", "\x00\x7f")), api.Success},
	{"a sharp ahead", of(`cn=\#a`, at("cn", "#A")), api.Success},
	{"a backslash", of(`cn=\\`, at("cn", `\`)), api.Success},

	{"a number", of("uidnumber=007", at("uidnumber", "7")), api.Success},
	{"another number", of("uidnumber=7", at("uidnumber", "70")), api.Naming},
	{"no number", of("uidnumber=x", at("uidnumber", "x")), api.Naming},
	{"an exact value", of("serialnumber=a b", at("serialnumber", " a  b")), api.Success},
	{"an exact value in great letters", of("serialnumber=a", at("serialnumber", "A")), api.Naming},
	{"an octet", of("userpassword=p", at("userpassword", "p")), api.Success},
	{"an octet in great letters", of("userpassword=p", at("userpassword", "P")), api.Naming},
	{"an octet with a blank", of("userpassword=p", at("userpassword", "p ")), api.Naming},
	{"a name", of(`member=cn\=a\,dc\=b`, at("member", "CN = A , dc=b")), api.Success},
	{"a name that is none", of("member=x", at("member", "x")), api.Naming},
	{"another name", of(`member=cn\=a`, at("member", "cn=b")), api.Naming},

	{"the longest value", of("cn="+strings.Repeat("v", 256), at("cn", strings.Repeat("V", 256))), api.Success},
	{"a longer one than may be", of("cn="+strings.Repeat("v", 257), at("cn", strings.Repeat("v", 257))), api.Naming},
	{"32 parts", of("cn=a"+strings.Repeat(",dc=b", 31), at("cn", "a")), api.Success},
	{"33 parts", of("cn=a"+strings.Repeat(",dc=b", 32), at("cn", "a")), api.Naming},
	{"8 pairs", of("cn=1+dc=2+description=3+mail=4+o=5+ou=6+sn=7+uid=8", eight...), api.Success},
	{"9 pairs", of("cn=1+dc=2+description=3+mail=4+o=5+ou=6+sn=7+uid=8+uidnumber=9", append(eight[:8:8], at("uidnumber", "9"))...), api.Naming},
}

// eight are attributes for a part of eight pairs.
var eight = []api.Attr{at("cn", "1"), at("dc", "2"), at("description", "3"), at("mail", "4"), at("o", "5"), at("ou", "6"), at("sn", "7"), at("uid", "8")}

func TestNaming(t *testing.T) {
	s := schema.Plain()
	for _, c := range namings {
		was := copied(c.e)
		if got := Naming(s, c.e); got != c.want {
			t.Errorf("%s: %d", c.what, got)
		}
		if !isEntry(c.e, was) {
			t.Errorf("%s: the entry has become %s", c.what, short(c.e))
		}
		if got := Naming(nil, c.e); got != api.Other {
			t.Errorf("nil, %s: %d", c.what, got)
		}
		if got := Naming(&schema.Schema{}, c.e); got != api.Naming {
			t.Errorf("zero, %s: %d", c.what, got)
		}
	}
	for i := range eight {
		if got := Naming(s, of("cn=1+dc=2+description=3+mail=4+o=5+ou=6+sn=7+uid=8", slices.Delete(slices.Clone(eight), i, i+1)...)); got != api.Naming {
			t.Errorf("8 pairs, %d missing: %d", i, got)
		}
	}
}

// TestNamingRules holds, for each rule, which values a part tells of.
func TestNamingRules(t *testing.T) {
	s := own(t)
	values := []string{"a", "b", "a b", " a", "a\x00", "0", "7", "007", "-7", "cn=a", "cn=a,dc=b", "#", `\`, `"`, "a+b", "\xff", "\u00c4"}
	others := append(slices.Clone(values), "", " ", "A", "A  B", "CN=A", "cn = a , dc = b", "-0", "-007", strings.Repeat("a", 4097))
	for rule := api.RuleIgnore; rule <= api.RuleDN; rule++ {
		kind := "by-" + strconv.Itoa(rule)
		for _, value := range values {
			name, err := dn.Norm(kind + "=" + dn.Escape(value))
			if err != api.OK {
				t.Fatalf("Norm of %q: %d", value, err)
			}
			d, _ := dn.Read(name)
			for _, other := range others {
				want := api.Naming
				if rules.Equal(rule, d[0][0].Value, other) == api.True {
					want = api.Success
				}
				for _, e := range []api.Entry{of(name, at(kind, other)), of(name+",zz=z", at("By-"+strconv.Itoa(rule), "none", other))} {
					if got := Naming(s, e); got != want {
						t.Errorf("rule %d, %s: %d", rule, short(e), got)
					}
				}
			}
		}
	}
}

// TestNamingOfApplied holds that what mods make of an entry may have lost its name.
func TestNamingOfApplied(t *testing.T) {
	s := schema.Plain()
	e := of("cn=a+sn=b,dc=b", at("cn", "A", "x"), at("sn", "B"))
	for _, c := range []struct {
		m    api.Mod
		want int
	}{
		{adding("cn", "y"), api.Success},
		{deleting("cn", "x"), api.Success},
		{deleting("cn", "a"), api.Naming},
		{deleting("cn"), api.Naming},
		{replacing("cn", "z", " a "), api.Success},
		{replacing("cn", "z"), api.Naming},
		{replacing("sn"), api.Naming},
	} {
		made, code := Apply(s, e, by(c.m))
		if code != api.Success {
			t.Fatalf("%v: %d", c.m, code)
		}
		if got := Naming(s, made); got != c.want {
			t.Errorf("%v: %d", c.m, got)
		}
	}
}

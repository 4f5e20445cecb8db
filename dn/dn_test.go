package dn

import (
	"reflect"
	"regexp"
	"sort"
	"strconv"
	"strings"
	"testing"

	"bothy/api"
)

// name tells a name: parts, each of types and values by turns.
func name(parts ...[]string) api.DN {
	d := api.DN{}
	for _, l := range parts {
		part := api.RDN{}
		for i := 0; i < len(l); i += 2 {
			part = append(part, api.AVA{Type: l[i], Value: l[i+1]})
		}
		d = append(d, part)
	}
	return d
}

// part tells a part of a name: types and values by turns.
func part(l ...string) []string { return l }

func same(a, b api.DN) bool {
	return len(a) == 0 && len(b) == 0 || reflect.DeepEqual(a, b)
}

// many tells text n times, with between between.
func many(text, between string, n int) string {
	return strings.Join(strings.Split(strings.Repeat(text+" ", n-1)+text, " "), between)
}

// pairs tells the text of a part of n pairs, each type another one.
func pairs(n int) string {
	var l []string
	for i := range n {
		l = append(l, "a"+strconv.Itoa(i)+"=v")
	}
	return strings.Join(l, "+")
}

var (
	a64  = strings.Repeat("a", 64)
	a65  = strings.Repeat("a", 65)
	v256 = strings.Repeat("v", 256)
	v257 = strings.Repeat("v", 257)
)

var reads = []struct {
	s    string
	want api.DN
}{
	{"", nil},
	{"a=b", name(part("a", "b"))},
	{"CN=Al,DC=x", name(part("CN", "Al"), part("DC", "x"))},
	{"a=b,c=d,e=f", name(part("a", "b"), part("c", "d"), part("e", "f"))},
	{"a=b+c=d", name(part("a", "b", "c", "d"))},
	{"c=d+a=b,e=f+d=g+a=b", name(part("c", "d", "a", "b"), part("e", "f", "d", "g", "a", "b"))},
	{"a=b,a=b", name(part("a", "b"), part("a", "b"))},
	// Types.
	{"a-1=b", name(part("a-1", "b"))},
	{"A-=b", name(part("A-", "b"))},
	{"z9=b", name(part("z9", "b"))},
	{"Z=b", name(part("Z", "b"))},
	{a64 + "=b", name(part(a64, "b"))},
	{"  " + a64 + "  =b", name(part(a64, "b"))},
	// Blanks.
	{" a = b ", name(part("a", "b"))},
	{"   a   =   b   ", name(part("a", "b"))},
	{"CN = Al  Ko , DC=x", name(part("CN", "Al  Ko"), part("DC", "x"))},
	{"a = b + c = d , e = f ", name(part("a", "b", "c", "d"), part("e", "f"))},
	{"a=b  c", name(part("a", "b  c"))},
	{`a=\ `, name(part("a", " "))},
	{`a=\20`, name(part("a", " "))},
	{`a= \ `, name(part("a", " "))},
	{`a=\  `, name(part("a", " "))},
	{`a= \   `, name(part("a", " "))},
	{`a=\ \ `, name(part("a", "  "))},
	{`a=\  \ `, name(part("a", "   "))},
	{`a=\ b\ `, name(part("a", " b "))},
	{`a= \ b\  `, name(part("a", " b "))},
	{`a=b\ c`, name(part("a", "b c"))},
	{`a=b \  `, name(part("a", "b  "))},
	{`a=\20b\20 `, name(part("a", " b "))},
	{`a=\  b`, name(part("a", "  b"))},
	// Signs behind a backslash.
	{`a=\,\+\"\\\<\>\;\=\#\ `, name(part("a", `,+"\<>;=# `))},
	{`a=\,b,c=\+d+e=\\`, name(part("a", ",b"), part("c", "+d", "e", `\`))},
	{`a=\\,b=c`, name(part("a", `\`), part("b", "c"))},
	{`a=\\\,b=c`, name(part("a", `\,b=c`))},
	{`a=b\#c`, name(part("a", "b#c"))},
	{`a=\#b`, name(part("a", "#b"))},
	{`a=\##`, name(part("a", "##"))},
	{`a=b#`, name(part("a", "b#"))},
	{`a=b #`, name(part("a", "b #"))},
	{`a=\ #`, name(part("a", " #"))},
	{`a=\20#`, name(part("a", " #"))},
	{`a=\23#`, name(part("a", "##"))},
	{"a==", name(part("a", "="))},
	{"a=b=c", name(part("a", "b=c"))},
	{"a= = =", name(part("a", "= ="))},
	{"a=b=", name(part("a", "b="))},
	{"a=b=c,d=e", name(part("a", "b=c"), part("d", "e"))},
	// Digits behind a backslash.
	{`a=\2c`, name(part("a", ","))},
	{`a=\2C`, name(part("a", ","))},
	{`a=\2cb,c=\5c`, name(part("a", ",b"), part("c", `\`))},
	{`a=\00\1f\7f\0A`, name(part("a", "\x00\x1f\x7f\n"))},
	{`a=\61\62\fF\Ff\aA`, name(part("a", "ab\xff\xff\xaa"))},
	{`a=\611`, name(part("a", "a1"))},
	{`a=\c3\a4`, name(part("a", "\u00e4"))},
	// Other bytes stand as they are.
	{"a=!$%&'()*-./:?@[]^_`{|}~", name(part("a", "!$%&'()*-./:?@[]^_`{|}~"))},
	{"a=\u00e4\xff\x80", name(part("a", "\u00e4\xff\x80"))},
	{"a=\u00a0b\u00a0", name(part("a", "\u00a0b\u00a0"))},
	{"a=1", name(part("a", "1"))},
	// The edges.
	{"a=" + v256, name(part("a", v256))},
	{"a=" + strings.Repeat(`\2c`, 256), name(part("a", strings.Repeat(",", 256)))},
	{"a=  " + v256 + "  ", name(part("a", v256))},
	{pairs(8), name(part("a0", "v", "a1", "v", "a2", "v", "a3", "v", "a4", "v", "a5", "v", "a6", "v", "a7", "v"))},
	{"a=b" + strings.Repeat(" ", api.MaxText-3), name(part("a", "b"))},
}

func TestRead(t *testing.T) {
	for _, c := range reads {
		if got, err := Read(c.s); err != api.OK || !same(got, c.want) {
			t.Errorf("Read of %q: %q, %d", c.s, got, err)
		}
	}
}

var wrongs = []struct {
	s   string
	err api.Errno
}{
	{" ", api.ErrForm},
	{",", api.ErrForm},
	{"+", api.ErrForm},
	{"=", api.ErrForm},
	{`\`, api.ErrForm},
	{"a", api.ErrForm},
	{"a=", api.ErrForm},
	{"=b", api.ErrForm},
	{" =b", api.ErrForm},
	{"a= ", api.ErrForm},
	{"a=b,", api.ErrForm},
	{",a=b", api.ErrForm},
	{"a=b,,c=d", api.ErrForm},
	{"a=b, ,c=d", api.ErrForm},
	{"a=b+", api.ErrForm},
	{"+a=b", api.ErrForm},
	{"a=b++c=d", api.ErrForm},
	{"a=b+,c=d", api.ErrForm},
	{"a=b,+c=d", api.ErrForm},
	{"a=,b=c", api.ErrForm},
	{"a= +b=c", api.ErrForm},
	{"a,b=c", api.ErrForm},
	{"a+b=c", api.ErrForm},
	{"a=b,c", api.ErrForm},
	// Types.
	{"1=b", api.ErrForm},
	{"-=b", api.ErrForm},
	{"-a=b", api.ErrForm},
	{"1a=b", api.ErrForm},
	{"a b=c", api.ErrForm},
	{"a_=b", api.ErrForm},
	{"a.b=c", api.ErrForm},
	{"a;b=c", api.ErrForm},
	{"2.5.4.3=b", api.ErrForm},
	{"\u00e4=b", api.ErrForm},
	{"a\u00e4=b", api.ErrForm},
	{"a\t=b", api.ErrForm},
	{"a\x00=b", api.ErrForm},
	{`\61=b`, api.ErrForm},
	{`a\ =b`, api.ErrForm},
	{`a\==b`, api.ErrForm},
	{`a\,b=c`, api.ErrForm},
	{"@=b", api.ErrForm},
	{"[=b", api.ErrForm},
	{"`=b", api.ErrForm},
	{"{=b", api.ErrForm},
	{"a/=b", api.ErrForm},
	{"a:=b", api.ErrForm},
	{a65 + "=b", api.ErrForm},
	// Values.
	{"a=#b", api.ErrForm},
	{"a=#", api.ErrForm},
	{"a= #b", api.ErrForm},
	{`a="b"`, api.ErrForm},
	{`a=b"`, api.ErrForm},
	{"a=<b", api.ErrForm},
	{"a=b>", api.ErrForm},
	{"a=b;c=d", api.ErrForm},
	{"a=b\tc", api.ErrForm},
	{"a=\tb", api.ErrForm},
	{"a=b\n", api.ErrForm},
	{"a=\x00", api.ErrForm},
	{"a=b\x1f", api.ErrForm},
	{"a=b\x7f", api.ErrForm},
	{"a=\\\x00", api.ErrForm},
	{"a=\\\n", api.ErrForm},
	{"a=\\\x7f", api.ErrForm},
	{`a=\`, api.ErrForm},
	{`a=b\`, api.ErrForm},
	{`a=\\\`, api.ErrForm},
	{`a=\2`, api.ErrForm},
	{`a=\2,b=c`, api.ErrForm},
	{`a=\2g`, api.ErrForm},
	{`a=\g2`, api.ErrForm},
	{`a=\z`, api.ErrForm},
	{`a=\a`, api.ErrForm},
	{`a=\-1`, api.ErrForm},
	{`a=\+`, api.OK},
	{`a=\0x`, api.ErrForm},
	{`a=\2 `, api.ErrForm},
	{`a=\_1`, api.ErrForm},
	{`a=\1_`, api.ErrForm},
	{`a=\!`, api.ErrForm},
	{"a=\\\u00e4", api.ErrForm},
	// Check's errors.
	{"a=" + v257, api.ErrForm},
	{"a=" + strings.Repeat(`\2c`, 257), api.ErrForm},
	{"a=1+a=2", api.ErrForm},
	{"a=1+A=2", api.ErrForm},
	{"a=1+b=1+a=1", api.ErrForm},
	{"b=1+a=1+A=1", api.ErrForm},
	{"x=y,Ab=1+c=d+aB=2,z=1", api.ErrForm},
	{"a=1,A=2", api.OK},
	// Which one is first.
	{strings.Repeat("a", api.MaxText), api.ErrForm},
	{strings.Repeat("a", api.MaxText+1), api.ErrLong},
	{strings.Repeat(" ", api.MaxText), api.ErrForm},
	{strings.Repeat(" ", api.MaxText+1), api.ErrLong},
	{"a=b" + strings.Repeat(" ", api.MaxText-2), api.ErrLong},
	{many("a=b", ",", api.MaxRDNs), api.OK},
	{many("a=b", ",", api.MaxRDNs+1), api.ErrLong},
	{many("a=b", ",", 1024), api.ErrLong},
	{many("a=b", ",", api.MaxRDNs) + ",", api.ErrForm},
	{many("a=b", ",", api.MaxRDNs) + ",a=\t", api.ErrForm},
	{many("a=b", ",", api.MaxRDNs) + "," + a65 + "=b", api.ErrForm},
	{many("a=b", ",", api.MaxRDNs) + ",a=", api.ErrForm},
	{many("a=b", ",", api.MaxRDNs) + ",a=1+a=2", api.ErrLong},
	{many("a=b", ",", api.MaxRDNs) + ",a=" + v257, api.ErrLong},
	{many("a=b", ",", api.MaxRDNs-1) + ",a=1+a=2", api.ErrForm},
	{many("a=b", ",", api.MaxRDNs-1) + ",a=" + v257, api.ErrForm},
	{pairs(9), api.ErrLong},
	{"a=b," + pairs(9) + ",c=d", api.ErrLong},
	{many("a=b", "+", 8), api.ErrForm},
	{many("a=b", "+", 9), api.ErrLong},
	{"a=1+a=2," + pairs(9), api.ErrLong},
	{"a=" + v257 + "," + pairs(9), api.ErrLong},
	{pairs(9) + ",a=\t", api.ErrForm},
	{pairs(8) + "," + pairs(8), api.OK},
}

func TestReadWrong(t *testing.T) {
	for _, c := range wrongs {
		got, err := Read(c.s)
		if err != c.err || err != api.OK && len(got) > 0 {
			t.Errorf("Read of %q: %q, %d", c.s, got, err)
		}
		if c.err == api.OK {
			continue
		}
		if got, err := Norm(c.s); err != c.err || got != "" {
			t.Errorf("Norm of %q: %q, %d", c.s, got, err)
		}
	}
}

// What a name's text may be, worked out by other means.
const (
	oneType  = ` *([A-Za-z][A-Za-z0-9-]*) *`
	oneByte  = `(?:\\[,+"\\<>;=# ]|\\[0-9a-fA-F][0-9a-fA-F]|[^,+"\\<>; \x00-\x1f\x7f])`
	oneValue = ` *(?:\\[,+"\\<>;=# ]|\\[0-9a-fA-F][0-9a-fA-F]|[^,+"\\<>;# \x00-\x1f\x7f])(?: *` + oneByte + `)* *`
)

var (
	wholePair  = regexp.MustCompile(`^` + oneType + `=(` + oneValue + `)`)
	valueBytes = regexp.MustCompile(`^(\\[,+"\\<>;=# ]|\\[0-9a-fA-F][0-9a-fA-F]|[^\\])`)
)

// slowValue tells the value of a text that is one's.
func slowValue(s string) string {
	value, stays := "", 0
	for s = strings.TrimLeft(s, " "); s != ""; {
		one := valueBytes.FindString(s)
		s = s[len(one):]
		switch {
		case len(one) == 3:
			n, _ := strconv.ParseInt(one[1:], 16, 32)
			value += string([]byte{byte(n)})
		case len(one) == 2:
			value += one[1:]
		default:
			value += one
		}
		if one != " " {
			stays = len(value)
		}
	}
	return value[:stays]
}

// slowRead tells the name of a short text, and whether it is one's.
func slowRead(s string) (api.DN, bool) {
	if s == "" {
		return nil, true
	}
	d, fresh := api.DN{}, true
	for {
		m := wholePair.FindStringSubmatch(s)
		if m == nil {
			return nil, false
		}
		if fresh {
			d = append(d, nil)
		}
		last := len(d) - 1
		for _, p := range d[last] {
			if strings.EqualFold(p.Type, m[1]) {
				return nil, false
			}
		}
		d[last] = append(d[last], api.AVA{Type: m[1], Value: slowValue(m[2])})
		s = s[len(m[0]):]
		if s == "" {
			return d, true
		}
		if s[0] != ',' && s[0] != '+' {
			return nil, false
		}
		fresh = s[0] == ','
		s = s[1:]
	}
}

// each hands in all texts of up to n of letters.
func each(letters string, n int, f func(string)) {
	f("")
	if n == 0 {
		return
	}
	for i := range len(letters) {
		each(letters, n-1, func(s string) {
			f(letters[i:i+1] + s)
		})
	}
}

func checkRead(t *testing.T, s string) {
	t.Helper()
	want, ok := slowRead(s)
	err := api.OK
	if !ok {
		err = api.ErrForm
	}
	if got, e := Read(s); e != err || !same(got, want) {
		t.Fatalf("Read of %q: %q, %d, not %q, %d", s, got, e, want, err)
	}
}

// TestReadAll goes over all short texts, and over all short texts of values.
func TestReadAll(t *testing.T) {
	all := func(before, letters string, n int, behind string) {
		each(letters, n, func(s string) { checkRead(t, before+s+behind) })
	}
	all("", `a=, \`, 5, "")
	all("", "aA=+,", 7, "")
	all("a=", `,+"\< #=0aF`, 4, "")
	all("a=", ` \#`, 8, "")
	all("a=b", `,+"\<>; #=1`, 4, "c=d")
	all("", "aZ09- =", 4, "=b")
	for a := range 256 {
		checkRead(t, "a="+string([]byte{byte(a)}))
		for b := range 256 {
			if a < 128 && b < 128 {
				checkRead(t, "a="+string([]byte{byte(a), byte(b)}))
				checkRead(t, string([]byte{byte(a), byte(b)})+"=b")
				checkRead(t, "a=b"+string([]byte{byte(a), byte(b)})+"c")
				checkRead(t, `a=b\`+string([]byte{byte(a), byte(b)})+"c")
			}
		}
	}
}

var escapes = []struct{ s, want string }{
	{"", ""},
	{"a", "a"},
	{"Al  Ko", "Al  Ko"},
	{",", `\,`},
	{`,+"\<>;=`, `\,\+\"\\\<\>\;\=`},
	{`a,b+c"d\e<f>g;h=i`, `a\,b\+c\"d\\e\<f\>g\;h\=i`},
	{" ", `\ `},
	{"  ", `\ \ `},
	{"   ", `\  \ `},
	{" a ", `\ a\ `},
	{"  a  ", `\  a \ `},
	{"a b", "a b"},
	{"#", `\#`},
	{"##", `\##`},
	{"a#", "a#"},
	{" #", `\ #`},
	{"# ", `\#\ `},
	{"\x00\x01\x0f\x10\x1f\x7f", `\00\01\0f\10\1f\7f`},
	{"\t\n\r", `\09\0a\0d`},
	{"a\x00b", `a\00b`},
	{" \n ", `\ \0a\ `},
	{"\u00e4\x80\xff\xa0", "\u00e4\x80\xff\xa0"},
	{"!$%&'()*-./09:?@AZ[]^_`az{|}~", "!$%&'()*-./09:?@AZ[]^_`az{|}~"},
	{v257, v257},
	{strings.Repeat(",", 1<<16), strings.Repeat(`\,`, 1<<16)},
}

func TestEscape(t *testing.T) {
	for _, c := range escapes {
		if got := Escape(c.s); got != c.want {
			t.Errorf("Escape of %q: %q", c.s, got)
		}
	}
}

// TestEscapeBytes goes over each byte, alone, first, last and between.
func TestEscapeBytes(t *testing.T) {
	one := func(c byte, edge, first bool) string {
		s := string([]byte{c})
		switch {
		case c < 32 || c == 127:
			return `\` + string("0123456789abcdef"[c/16]) + string("0123456789abcdef"[c%16])
		case strings.Contains(`,+"\<>;=`, s), c == ' ' && edge, c == '#' && first:
			return `\` + s
		}
		return s
	}
	for i := range 256 {
		c := byte(i)
		s := string([]byte{c})
		for text, want := range map[string]string{
			s:             one(c, true, true),
			s + "a":       one(c, true, true) + "a",
			"a" + s:       "a" + one(c, true, false),
			"a" + s + "a": "a" + one(c, false, false) + "a",
		} {
			if got := Escape(text); got != want {
				t.Errorf("Escape of %q: %q", text, got)
			}
		}
	}
}

var checks = []struct {
	d   api.DN
	err api.Errno
}{
	{nil, api.OK},
	{api.DN{}, api.OK},
	{name(part("a", "b")), api.OK},
	{name(part("a", "b", "c", "d"), part("a", "b")), api.OK},
	{name(part("a", " ")), api.OK},
	{name(part("a", "\x00")), api.OK},
	{name(part("a", "#")), api.OK},
	{name(part("a", "\xff,")), api.OK},
	{name(part(a64, v256)), api.OK},
	{name(part("a-9", "b")), api.OK},
	{name(part()), api.ErrForm},
	{api.DN{nil}, api.ErrForm},
	{name(part("a", "b"), part()), api.ErrForm},
	{name(part(), part("a", "b")), api.ErrForm},
	{name(part("", "b")), api.ErrForm},
	{name(part("a", "")), api.ErrForm},
	{name(part(a65, "b")), api.ErrForm},
	{name(part("a", v257)), api.ErrForm},
	{name(part(" a", "b")), api.ErrForm},
	{name(part("a ", "b")), api.ErrForm},
	{name(part("1", "b")), api.ErrForm},
	{name(part("-a", "b")), api.ErrForm},
	{name(part("a=", "b")), api.ErrForm},
	{name(part("\u00e4", "b")), api.ErrForm},
	{name(part("a", "b", "c", "")), api.ErrForm},
	{name(part("a", "b", "1", "d")), api.ErrForm},
	{name(part("a", "b", "a", "c")), api.ErrForm},
	{name(part("a", "b", "a", "b")), api.ErrForm},
	{name(part("aB", "b", "Ab", "c")), api.ErrForm},
	{name(part("a", "b", "c", "d", "A", "e")), api.ErrForm},
	{name(part("x", "y"), part("a", "b", "c", "d", "C", "e")), api.ErrForm},
	{name(part("a", "1", "b", "1", "c", "1", "d", "1", "e", "1", "f", "1", "g", "1", "h", "1")), api.OK},
	{name(part("a", "1", "b", "1", "c", "1", "d", "1", "e", "1", "f", "1", "g", "1", "h", "1", "i", "1")), api.ErrForm},
	{long(api.MaxRDNs, "a", "b"), api.OK},
	{long(api.MaxRDNs+1, "a", "b"), api.ErrLong},
	{long(api.MaxRDNs+1, "", ""), api.ErrLong},
	{long(api.MaxRDNs, "", ""), api.ErrForm},
	{make(api.DN, api.MaxRDNs+1), api.ErrLong},
	{make(api.DN, api.MaxRDNs), api.ErrForm},
	{make(api.DN, 1<<20), api.ErrLong},
}

// long tells a name of n parts, all the same.
func long(n int, l ...string) api.DN {
	d := api.DN{}
	for range n {
		d = append(d, name(l)...)
	}
	return d
}

func TestCheck(t *testing.T) {
	for i, c := range checks {
		if err := Check(c.d); err != c.err {
			t.Errorf("%d: Check of %q: %d", i, c.d, err)
		}
		if c.err == api.OK {
			continue
		}
		if s, err := Put(c.d); err != c.err || s != "" {
			t.Errorf("%d: Put of %q: %q, %d", i, c.d, s, err)
		}
	}
}

var puts = []struct {
	d    api.DN
	want string
}{
	{nil, ""},
	{api.DN{}, ""},
	{name(part("a", "b")), "a=b"},
	{name(part("CN", "Al  Ko"), part("Dc", "X")), "CN=Al  Ko,Dc=X"},
	{name(part("c", "d", "a", "b"), part("z", "1", "y", "2", "x", "3")), "c=d+a=b,z=1+y=2+x=3"},
	{name(part("a", " b ")), `a=\ b\ `},
	{name(part("a", "  ", "c", "#")), `a=\ \ +c=\#`},
	{name(part("a", `,+"\<>;=`)), `a=\,\+\"\\\<\>\;\=`},
	{name(part("a", "\x00\x1f\x7f\xff")), "a=\\00\\1f\\7f\xff"},
	{name(part(a64, v256)), a64 + "=" + v256},
	{long(api.MaxRDNs, "a", "b"), many("a=b", ",", api.MaxRDNs)},
}

func TestPut(t *testing.T) {
	for _, c := range puts {
		got, err := Put(c.d)
		if err != api.OK || got != c.want {
			t.Errorf("Put of %q: %q, %d", c.d, got, err)
		}
		if back, err := Read(got); err != api.OK || !same(back, c.d) {
			t.Errorf("Read of %q: %q, %d", got, back, err)
		}
	}
}

// TestPutLong puts names just as long as they may be, and longer by one byte.
func TestPutLong(t *testing.T) {
	plain := strings.Repeat("v", 256)
	d := long(15, "a", plain) // 15 * 258 bytes, and 14 commas
	room := api.MaxText - 15*259
	fits := append(long(15, "a", plain), name(part("a", strings.Repeat("w", room-2)))...)
	over := append(long(15, "a", plain), name(part("a", strings.Repeat("w", room-1)))...)
	if s, err := Put(d); err != api.OK || len(s) != 15*259-1 {
		t.Errorf("Put of 15 parts: %d, %d", len(s), err)
	}
	if s, err := Put(fits); err != api.OK || len(s) != api.MaxText {
		t.Errorf("Put of what fits: %d, %d", len(s), err)
	}
	if s, err := Put(over); err != api.ErrLong || s != "" {
		t.Errorf("Put of what is longer: %q, %d", s, err)
	}
	// Signs are longer as a text than as a value.
	if s, err := Put(long(8, "a", strings.Repeat(",", 256))); err != api.ErrLong || s != "" {
		t.Errorf("Put of many commas: %q, %d", s, err)
	}
	if s, err := Put(long(6, "a", strings.Repeat("\x00", 256))); err != api.ErrLong || s != "" {
		t.Errorf("Put of many noughts: %q, %d", s, err)
	}
	// Check's error is ahead of it.
	if s, err := Put(append(over, nil)); err != api.ErrForm || s != "" {
		t.Errorf("Put of a long one with a part of none: %q, %d", s, err)
	}
}

var norms = []struct{ s, want string }{
	{"", ""},
	{"a=b", "a=b"},
	{"CN = Al  Ko , DC=x", "cn=al ko,dc=x"},
	{"CN=A,OU=B", "cn=a,ou=b"},
	{"OU=B,CN=A", "ou=b,cn=a"},
	{"b=2+a=1", "a=1+b=2"},
	{"B=2+a=1", "a=1+b=2"},
	{"b=1+A=2", "a=2+b=1"},
	{"c=1+a=2+b=3,f=4+e=5", "a=2+b=3+c=1,e=5+f=4"},
	{"a-=1+a1=2+a=3+ab=4", "a=3+a-=1+a1=2+ab=4"},
	{"a10=1+a9=2", "a10=1+a9=2"},
	{`a=\ B\ `, "a=b"},
	{`a=\20\20B\20 \20C`, "a=b c"},
	{`a=B\20\ C`, "a=b c"},
	{`a=\ #b`, `a=\#b`},
	{`a=\41\2C`, `a=a\,`},
	{`a=\00\0A\7F`, `a=\00\0a\7f`},
	{`a=\FF`, "a=\xff"},
	{`a=\C3\84`, "a=\u00c4"},
	{"a=\u00c4B", "a=\u00c4b"},
	{"a=b=C", `a=b\=c`},
	{`a=\09 b`, `a=\09 b`},
	{`a=b \ #`, "a=b #"},
	{`a=\<\>\;\"\+`, `a=\<\>\;\"\+`},
	{"a=010", "a=010"},
	{"A=b,a=B", "a=b,a=b"},
}

func TestNorm(t *testing.T) {
	for _, c := range norms {
		got, err := Norm(c.s)
		if err != api.OK || got != c.want {
			t.Errorf("Norm of %q: %q, %d", c.s, got, err)
		}
		if again, err := Norm(got); err != api.OK || again != got {
			t.Errorf("Norm of %q: %q, %d", got, again, err)
		}
	}
}

func TestNormWrong(t *testing.T) {
	equals := "a=" + strings.Repeat("=", 256)
	for _, c := range []struct {
		s   string
		err api.Errno
	}{
		// Fold leaves nothing.
		{`a=\ `, api.ErrForm},
		{`a=\20`, api.ErrForm},
		{`a=\ \ `, api.ErrForm},
		{`a=\   \ `, api.ErrForm},
		{`b=c+a=\ `, api.ErrForm},
		{`a=b,c=\ ,d=e`, api.ErrForm},
		// What may be read may be too long when it is put.
		{many(equals, ",", 7), api.OK},
		{many(equals, ",", 8), api.ErrLong},
		{many(equals, ",", 15), api.ErrLong},
		{`c=\ ,` + many(equals, ",", 15), api.ErrForm},
	} {
		if _, err := Read(c.s); err != api.OK {
			t.Errorf("Read of %q: %d", c.s, err)
		}
		got, err := Norm(c.s)
		if err != c.err || err != api.OK && got != "" {
			t.Errorf("Norm of %q: %q, %d", c.s, got, err)
		}
	}
}

// slowNorm tells the normal text of a short name, worked out by other means.
func slowNorm(d api.DN) (string, bool) {
	// Letters of other bytes, and bytes that are no UTF-8, stay.
	small := strings.NewReplacer("A", "a", "B", "b", "C", "c")
	var parts []string
	for _, part := range d {
		var l []string
		for _, p := range part {
			value := strings.Join(strings.FieldsFunc(p.Value, func(r rune) bool { return r == ' ' }), " ")
			if value == "" {
				return "", false
			}
			l = append(l, small.Replace(p.Type+"="+Escape(value)))
		}
		// The types are one letter each.
		sort.Strings(l)
		parts = append(parts, strings.Join(l, "+"))
	}
	return strings.Join(parts, ","), true
}

// TestNormAll goes over all short texts that are names': 6.3, and what Norm is.
func TestNormAll(t *testing.T) {
	check := func(s string) {
		d, err := Read(s)
		if err != api.OK {
			return
		}
		text, err := Put(d)
		if err != api.OK {
			t.Fatalf("Put of %q: %d", d, err)
		}
		if back, err := Read(text); err != api.OK || !same(back, d) {
			t.Fatalf("Read of %q: %q, %d", text, back, err)
		}
		want, ok := slowNorm(d)
		got, err := Norm(s)
		if ok != (err == api.OK) || got != want || !ok && err != api.ErrForm {
			t.Fatalf("Norm of %q: %q, %d, not %q", s, got, err, want)
		}
		if again, err := Norm(got); err != api.OK && ok || again != got {
			t.Fatalf("Norm of %q: %q, %d", got, again, err)
		}
	}
	each(`A =#\`, 5, func(s string) { check("a=" + s) })
	each(`A =#\`, 4, func(s string) { check("b=" + s + "+A=" + s + ",C=x") })
	each("aB=+,", 7, check)
}

// TestPutRead puts values of all sorts, and reads them again.
func TestPutRead(t *testing.T) {
	each(" #a,\\=\x00\xff", 4, func(s string) {
		if s == "" {
			return
		}
		d := name(part("a", s, "B", s), part("a", s))
		text, err := Put(d)
		if err != api.OK {
			t.Fatalf("Put of %q: %d", d, err)
		}
		if back, err := Read(text); err != api.OK || !same(back, d) {
			t.Fatalf("Read of %q: %q, %d", text, back, err)
		}
	})
}

// TestKept looks that what is handed in stays, and that no two lists of one answer share memory.
func TestKept(t *testing.T) {
	d := name(part("B", " X ", "A", "Y"), part("C", "z"))
	want := name(part("B", " X ", "A", "Y"), part("C", "z"))
	Check(d)
	Put(d)
	if !same(d, want) {
		t.Errorf("what was handed in is now %q", d)
	}
	got, _ := Read("a=b+c=d,e=f,g=h")
	_ = append(got[0], api.AVA{Type: "x", Value: "y"})
	_ = append(got[1], api.AVA{Type: "x", Value: "y"})
	if !same(got, name(part("a", "b", "c", "d"), part("e", "f"), part("g", "h"))) {
		t.Errorf("lists share memory: %q", got)
	}
}

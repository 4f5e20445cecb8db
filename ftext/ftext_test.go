package ftext

import (
	"encoding/hex"
	"regexp"
	"slices"
	"strings"
	"testing"

	"bothy/api"
	"bothy/filter"
)

// leaf tells a filter of an attribute and a value.
func leaf(kind int, attr, value string) api.Filter {
	return api.Filter{Kind: kind, Attr: attr, Value: value}
}

// present tells a filter that asks whether there is an attribute.
func present(attr string) api.Filter {
	return leaf(api.FilterPresent, attr, "")
}

// parts tells a filter of parts of a value.
func parts(attr, head, tail string, mids ...string) api.Filter {
	return api.Filter{Kind: api.FilterSubs, Attr: attr, Subs: api.Subs{Head: head, Mids: mids, Tail: tail}}
}

// of tells a filter of this kind, of filters.
func of(kind int, list ...api.Filter) api.Filter {
	return api.Filter{Kind: kind, List: list}
}

// times tells n times f.
func times(n int, f api.Filter) []api.Filter {
	return slices.Repeat([]api.Filter{f}, n)
}

// under tells f with n levels above it.
func under(n int, f api.Filter) api.Filter {
	for range n {
		f = of(api.FilterNot, f)
	}
	return f
}

// above tells the text s within n times a not.
func above(n int, s string) string {
	return strings.Repeat("(!", n) + s + strings.Repeat(")", n)
}

// isBad tells whether Read tells of s that it is no filter.
func isBad(s string) bool {
	f, err := Read(s)
	return err == api.ErrForm && isZero(f)
}

// isZero tells whether all fields of f are empty.
func isZero(f api.Filter) bool {
	return f.Kind == 0 && f.Attr == "" && f.Value == "" && f.Subs.Head == "" && f.Subs.Mids == nil && f.Subs.Tail == "" && f.List == nil
}

var (
	most = strings.Repeat("v", 1024)
	name = strings.Repeat("n", 64)
	mids = slices.Repeat([]string{"m"}, 16)
)

// texts are filters, and their texts written out by hand.
var texts = []struct {
	f api.Filter
	s string
}{
	{present("cn"), "(cn=*)"},
	{present("CN"), "(CN=*)"},
	{present("a-1"), "(a-1=*)"},
	{present(name), "(" + name + "=*)"},
	{leaf(api.FilterEqual, "cn", "a"), "(cn=a)"},
	{leaf(api.FilterEqual, "cn", ""), "(cn=)"},
	{leaf(api.FilterEqual, "cn", "*"), `(cn=\2a)`},
	{leaf(api.FilterEqual, "cn", "a*b"), `(cn=a\2ab)`},
	{leaf(api.FilterEqual, "cn", `()*\`), `(cn=\28\29\2a\5c)`},
	{leaf(api.FilterEqual, "cn", `\2a`), `(cn=\5c2a)`},
	{leaf(api.FilterEqual, "cn", "\x00\x1f \x7f\x80\xff"), `(cn=\00\1f \7f\80\ff)`},
	{leaf(api.FilterEqual, "cn", "ä"), `(cn=\c3\a4)`},
	{leaf(api.FilterEqual, "cn", " a  b "), "(cn= a  b )"},
	{leaf(api.FilterEqual, "cn", "=b"), "(cn==b)"},
	{leaf(api.FilterEqual, "cn", ">b"), "(cn=>b)"},
	{leaf(api.FilterEqual, "cn", "a=b"), "(cn=a=b)"},
	{leaf(api.FilterEqual, "cn", "&|!"), "(cn=&|!)"},
	{leaf(api.FilterEqual, "cn", "(sn=*)"), `(cn=\28sn=\2a\29)`},
	{leaf(api.FilterEqual, name, most), "(" + name + "=" + most + ")"},
	{leaf(api.FilterGreater, "sn", "b"), "(sn>=b)"},
	{leaf(api.FilterGreater, "sn", ""), "(sn>=)"},
	{leaf(api.FilterGreater, "sn", "*"), `(sn>=\2a)`},
	{leaf(api.FilterGreater, "sn", "=b"), "(sn>==b)"},
	{leaf(api.FilterLess, "o", "cd"), "(o<=cd)"},
	{leaf(api.FilterLess, "o", ""), "(o<=)"},
	{leaf(api.FilterLess, "o", "a)"), `(o<=a\29)`},
	{leaf(api.FilterApprox, "uid", "e"), "(uid~=e)"},
	{leaf(api.FilterApprox, "uid", ""), "(uid~=)"},
	{leaf(api.FilterApprox, "uid", "~=(\x01"), `(uid~=~=\28\01)`},
	{parts("cn", "abc", ""), "(cn=abc*)"},
	{parts("cn", "", "", "b"), "(cn=*b*)"},
	{parts("cn", "", "c"), "(cn=*c)"},
	{parts("cn", "a", "c"), "(cn=a*c)"},
	{parts("cn", "a", "", "b"), "(cn=a*b*)"},
	{parts("cn", "", "c", "b"), "(cn=*b*c)"},
	{parts("cn", "", "", "b", "b"), "(cn=*b*b*)"},
	{parts("cn", "a", "d", "b", "c"), "(cn=a*b*c*d)"},
	{parts("cn", " ", " ", " "), "(cn= * * )"},
	{parts("cn", "*", "*", "*"), `(cn=\2a*\2a*\2a)`},
	{parts("cn", "(\x00", "\xff)", `\`, "*"), `(cn=\28\00*\5c*\2a*\ff\29)`},
	{parts("cn", "h", "t", mids...), "(cn=h*" + strings.Repeat("m*", 16) + "t)"},
	{parts("cn", most, "", most), "(cn=" + most + "*" + most + "*)"},
	{of(api.FilterAnd), "(&)"},
	{api.Filter{}, "(&)"},
	{of(api.FilterOr), "(|)"},
	{api.Filter{Kind: api.FilterOr, List: []api.Filter{}, Subs: api.Subs{Mids: []string{}}}, "(|)"},
	{of(api.FilterNot, present("sn")), "(!(sn=*))"},
	{of(api.FilterNot, of(api.FilterAnd)), "(!(&))"},
	{of(api.FilterNot, of(api.FilterNot, of(api.FilterOr))), "(!(!(|)))"},
	{of(api.FilterAnd, present("b")), "(&(b=*))"},
	{of(api.FilterAnd, present("b"), present("a"), present("b")), "(&(b=*)(a=*)(b=*))"},
	{of(api.FilterAnd, parts("cn", "a", ""), of(api.FilterNot, leaf(api.FilterEqual, "sn", "b"))), "(&(cn=a*)(!(sn=b)))"},
	{of(api.FilterOr, leaf(api.FilterEqual, "a", "x"), of(api.FilterAnd, present("b")), present("c")), "(|(a=x)(&(b=*))(c=*))"},
	{of(api.FilterAnd, of(api.FilterOr), of(api.FilterOr, of(api.FilterAnd)), of(api.FilterAnd)), "(&(|)(|(&))(&))"},
	{of(api.FilterAnd, times(64, present("a"))...), "(&" + strings.Repeat("(a=*)", 64) + ")"},
	{of(api.FilterOr, times(64, of(api.FilterOr))...), "(|" + strings.Repeat("(|)", 64) + ")"},
	{under(15, present("a")), above(15, "(a=*)")},
	{under(15, leaf(api.FilterApprox, "a", "b")), above(15, "(a~=b)")},
	{under(15, of(api.FilterAnd)), above(15, "(&)")},
}

func TestPut(t *testing.T) {
	for _, c := range texts {
		if s, err := Put(c.f); err != api.OK || s != c.s {
			t.Errorf("Put of what is %q: %q, %d", c.s, s, err)
		}
	}
}

func TestRead(t *testing.T) {
	for _, c := range texts {
		if f, err := Read(c.s); err != api.OK || !filter.Same(f, c.f) {
			t.Errorf("Read of %q: %v, %d", c.s, f, err)
		}
	}
}

func TestEscape(t *testing.T) {
	for s, want := range map[string]string{
		"":                 "",
		"a":                "a",
		"(\x00":            `\28\00`,
		"*()\\":            `\2a\28\29\5c`,
		"\x1f ~\x7f":       `\1f ~\7f`,
		"\x80\xff":         `\80\ff`,
		"ä\n":              `\c3\a4\0a`,
		`\2a`:              `\5c2a`,
		" A b,+\"<>;=#&|!": " A b,+\"<>;=#&|!",
		most:               most,
	} {
		if got := Escape(s); got != want {
			t.Errorf("Escape of %q: %q", s, got)
		}
	}
	if got := Escape(strings.Repeat("a*", 1<<16)); got != strings.Repeat(`a\2a`, 1<<16) {
		t.Errorf("Escape of a long text: %d bytes", len(got))
	}
}

// TestEachByte goes over all bytes: as they are escaped, and in each place of a value.
func TestEachByte(t *testing.T) {
	const bare = " !\"#$%&'+,-./0123456789:;<=>?@ABCDEFGHIJKLMNOPQRSTUVWXYZ[]^_`abcdefghijklmnopqrstuvwxyz{|}~"
	for n := range 256 {
		s := string([]byte{byte(n)})
		want := `\` + hex.EncodeToString([]byte(s))
		if strings.Contains(bare, s) {
			want = s
		}
		if got := Escape(s); got != want {
			t.Errorf("Escape of %q: %q", s, got)
		}
		if got := Escape("a" + s + s + "b"); got != "a"+want+want+"b" {
			t.Errorf("Escape of %q among others: %q", s, got)
		}
		for text, f := range map[string]api.Filter{
			"(cn=" + want + ")":     leaf(api.FilterEqual, "cn", s),
			"(cn>=" + want + ")":    leaf(api.FilterGreater, "cn", s),
			"(cn<=a" + want + ")":   leaf(api.FilterLess, "cn", "a"+s),
			"(cn~=" + want + "a)":   leaf(api.FilterApprox, "cn", s+"a"),
			"(cn=" + want + "*)":    parts("cn", s, ""),
			"(cn=*" + want + ")":    parts("cn", "", s),
			"(cn=*" + want + "*)":   parts("cn", "", "", s),
			"(cn=*a*" + want + "*)": parts("cn", "", "", "a", s),
		} {
			if got, err := Put(f); err != api.OK || got != text {
				t.Errorf("Put of %v: %q, %d", f, got, err)
			}
			if got, err := Read(text); err != api.OK || !filter.Same(got, f) {
				t.Errorf("Read of %q: %v, %d", text, got, err)
			}
		}
		// A byte stands as it is, or as digits, not as one likes; a star has a meaning of its own.
		if want != s && s != "*" && (!isBad("(cn="+s+")") || !isBad("(cn=a"+s+"*)")) {
			t.Errorf("Read of a value with %q", s)
		}
		if coded := `\` + hex.EncodeToString([]byte(s)); want == s && (!isBad("(cn="+coded+")") || !isBad("(cn=*"+coded+")")) {
			t.Errorf("Read of a value with %q", coded)
		}
	}
}

// TestEachCode goes over all pairs of bytes behind a backslash.
func TestEachCode(t *testing.T) {
	good := map[string]string{}
	for n := range 256 {
		if s := string([]byte{byte(n)}); Escape(s) != s {
			good[Escape(s)] = s
		}
	}
	if len(good) != 32+129+4 {
		t.Fatalf("%d bytes are escaped", len(good))
	}
	for n := range 1 << 16 {
		coded := `\` + string([]byte{byte(n >> 8), byte(n)})
		f, err := Read("(a=" + coded + ")")
		if want, ok := good[coded]; ok {
			if err != api.OK || !filter.Same(f, leaf(api.FilterEqual, "a", want)) {
				t.Errorf("Read of %q: %v, %d", coded, f, err)
			}
			continue
		}
		if err != api.ErrForm || !isZero(f) {
			t.Errorf("Read of %q: %v, %d", coded, f, err)
		}
	}
}

// TestPutChecks holds that Put tells Check's error, whichever it is, and wherever it stands.
func TestPutChecks(t *testing.T) {
	for _, c := range []struct {
		f    api.Filter
		want api.Errno
	}{
		{leaf(9, "cn", "a"), api.ErrArg},
		{leaf(-1, "cn", "a"), api.ErrArg},
		{leaf(api.FilterEqual+256, "cn", "a"), api.ErrArg},
		{of(api.FilterAnd, times(65, present("a"))...), api.ErrLong},
		{of(api.FilterNot), api.ErrForm},
		{of(api.FilterNot, present("a"), present("b")), api.ErrForm},
		{leaf(api.FilterPresent, "cn", "a"), api.ErrForm},
		{leaf(api.FilterAnd, "cn", ""), api.ErrForm},
		{leaf(api.FilterSubs, "cn", ""), api.ErrForm},
		{parts("cn", "a", "b", ""), api.ErrForm},
		{parts("cn", "a", "b", append(mids, "m")...), api.ErrForm},
		{present(""), api.ErrName},
		{present("1"), api.ErrName},
		{present(name + "n"), api.ErrName},
		{leaf(api.FilterEqual, "c n", "a"), api.ErrName},
		{leaf(api.FilterEqual, "cn", most+"v"), api.ErrLong},
		{parts("cn", "", "", most+"v"), api.ErrLong},
		{under(16, present("a")), api.ErrDeep},
		{of(api.FilterAnd, present("a"), leaf(9, "cn", ""), present("1")), api.ErrArg},
		// A filter that is too long as a text, with another error behind.
		{of(api.FilterAnd, append(times(63, leaf(api.FilterEqual, "cn", most)), leaf(9, "cn", ""))...), api.ErrArg},
		{of(api.FilterOr, of(api.FilterAnd, times(5, leaf(api.FilterEqual, "cn", most))...), present("1")), api.ErrName},
	} {
		if s, err := Put(c.f); err != c.want || s != "" {
			t.Errorf("Put of %v: %q, %d", c.f, s, err)
		}
		want := c.want
		if filter.Depth(c.f) > 15 {
			want = api.ErrDeep
		}
		if s, err := Put(of(api.FilterOr, c.f)); err != want || s != "" {
			t.Errorf("Put of an or of %v: %q, %d", c.f, s, err)
		}
	}
}

// TestLongest goes over the edges of a text: one of MaxText bytes may be, whatever they are.
func TestLongest(t *testing.T) {
	for more := -3; more <= 3; more++ {
		n := api.MaxText + more
		for _, c := range []struct {
			f api.Filter
			s string
		}{
			// All but the last value are 3092 bytes, 3079, and 3077.
			{of(api.FilterOr, append(times(3, leaf(api.FilterEqual, "a", most)), leaf(api.FilterLess, "a", most[:n-3092]))...),
				"(|" + strings.Repeat("(a="+most+")", 3) + "(a<=" + most[:n-3092] + "))"},
			{parts("a", most, most[:n-3079], most, most), "(a=" + most + "*" + most + "*" + most + "*" + most[:n-3079] + ")"},
			// A byte that is escaped has three; 1024 of them are 3072.
			{parts("a", strings.Repeat("*", 1024), most[:n-3077]), "(a=" + strings.Repeat(`\2a`, 1024) + "*" + most[:n-3077] + ")"},
		} {
			if len(c.s) != n {
				t.Fatalf("%d bytes, not %d", len(c.s), n)
			}
			if err := filter.Check(c.f); err != api.OK {
				t.Fatalf("Check of what should have %d bytes: %d", n, err)
			}
			s, err := Put(c.f)
			f, readErr := Read(c.s)
			if more > 0 {
				if s != "" || err != api.ErrLong {
					t.Errorf("Put of %d bytes: %d bytes, %d", n, len(s), err)
				}
				if !isZero(f) || readErr != api.ErrLong {
					t.Errorf("Read of %d bytes: %d", n, readErr)
				}
				continue
			}
			if s != c.s || err != api.OK {
				t.Errorf("Put of %d bytes: %d bytes, %d", n, len(s), err)
			}
			if !filter.Same(f, c.f) || readErr != api.OK {
				t.Errorf("Read of %d bytes: %d", n, readErr)
			}
		}
	}
	// How long a text may be is asked ahead of what it is.
	for _, s := range []string{"(", ")", "a", "\x00", "(&)", "(!", `\`, "(a=*)", "(a="} {
		for n := api.MaxText - 4; n <= api.MaxText+4; n++ {
			long := strings.Repeat(s, n/len(s)+1)[:n]
			want := api.ErrForm
			if n > api.MaxText {
				want = api.ErrLong
			}
			if f, err := Read(long); err != want || !isZero(f) {
				t.Errorf("Read of %d bytes of %q: %d", n, s, err)
			}
		}
		if f, err := Read(strings.Repeat(s, 1<<20)); err != api.ErrLong || !isZero(f) {
			t.Errorf("Read of very many bytes of %q: %d", s, err)
		}
	}
}

// TestShared holds that filters that share lists, and are far more than can be gone over, end soon.
func TestShared(t *testing.T) {
	for _, f := range []api.Filter{of(api.FilterAnd), present("a"), leaf(api.FilterEqual, name, most), parts("a", most, most, most)} {
		for n := range 16 {
			s, err := Put(f)
			if n > 1 && (s != "" || err != api.ErrLong) {
				t.Errorf("Put of %d levels of 64: %d bytes, %d", n, len(s), err)
			}
			f = of(api.FilterOr, times(64, f)...)
		}
		if s, err := Put(f); s != "" || err != api.ErrDeep {
			t.Errorf("Put of 16 levels of 64: %d bytes, %d", len(s), err)
		}
	}
	list := make([]api.Filter, 1)
	list[0] = of(api.FilterNot, list...)
	list[0].List = list
	if s, err := Put(list[0]); s != "" || err != api.ErrDeep {
		t.Errorf("Put of what stands in itself: %q, %d", s, err)
	}
	// Two levels of one list are put as often as they stand.
	low := of(api.FilterOr, present("a"))
	if s, err := Put(of(api.FilterAnd, low, of(api.FilterNot, low), low)); err != api.OK || s != "(&(|(a=*))(!(|(a=*)))(|(a=*)))" {
		t.Errorf("Put of what stands three times: %q, %d", s, err)
	}
}

// TestReadWrong goes over texts that are no filter's.
func TestReadWrong(t *testing.T) {
	for what, s := range map[string]string{
		"no bytes":                            "",
		"a bracket alone":                     "(",
		"a bracket that shuts alone":          ")",
		"brackets alone":                      "()",
		"no brackets":                         "cn=a",
		"no bracket ahead":                    "cn=a)",
		"no bracket behind":                   "(cn=a",
		"two brackets ahead":                  "((cn=a)",
		"two brackets behind":                 "(cn=a))",
		"two pairs of brackets":               "((cn=a))",
		"a blank ahead":                       " (cn=a)",
		"a blank behind":                      "(cn=a) ",
		"a line feed behind":                  "(cn=a)\n",
		"two filters":                         "(cn=a)(cn=a)",
		"a filter and a text":                 "(cn=a)a",
		"a name alone":                        "(cn)",
		"no name":                             "(=a)",
		"no name ahead of a greater":          "(>=a)",
		"no name ahead of a star":             "(=*)",
		"nothing but an equals sign":          "(=)",
		"a digit ahead in a name":             "(1=a)",
		"a minus ahead in a name":             "(-a=a)",
		"an underscore in a name":             "(a_b=a)",
		"a point in a name":                   "(2.5.4.3=a)",
		"an option of a name":                 "(cn;lang-de=a)",
		"a rule of a name":                    "(cn:=a)",
		"a blank in a name":                   "(c n=a)",
		"a blank ahead of a name":             "( cn=a)",
		"a blank behind a name":               "(cn =a)",
		"a backslash in a name":               `(c\6e=a)`,
		"a bracket in a name":                 "(c(n=a)",
		"a bracket that shuts in a name":      "(c)n=a)",
		"a star in a name":                    "(c*n=a)",
		"a name of 65 bytes":                  "(n" + name + "=a)",
		"a sign without an equals sign":       "(cn>a)",
		"a sign with a blank":                 "(cn> =a)",
		"the other sign":                      "(cn!=a)",
		"an and as a sign":                    "(cn&=a)",
		"a name ahead of an and":              "(cn&(a=*))",
		"a name ahead of an and of none":      "(cn&)",
		"a name ahead of a not":               "(cn!(a=*))",
		"signs twice":                         "(cn<>=a)",
		"a bracket in a value":                "(cn=(a)",
		"a bracket behind a value":            "(cn=a()",
		"brackets in a value":                 "(cn=(a))",
		"a byte of 0":                         "(cn=\x00)",
		"a line feed":                         "(cn=\n)",
		"a byte of 127":                       "(cn=\x7f)",
		"a letter of two bytes":               "(cn=ä)",
		"a byte that is no letter":            "(cn=\xff)",
		"a backslash alone":                   `(cn=\)`,
		"a backslash at the end":              `(cn=\`,
		"one digit":                           `(cn=\2)`,
		"one digit at the end":                `(cn=\2`,
		"two digits at the end":               `(cn=\2a`,
		"two backslashes":                     `(cn=\\)`,
		"a star behind a backslash":           `(cn=\*)`,
		"a bracket behind a backslash":        `(cn=\()`,
		"large digits":                        `(cn=\2A)`,
		"large digits of a backslash":         `(cn=\5C)`,
		"large digits of both":                `(cn=\FF)`,
		"digits of a letter":                  `(cn=\61)`,
		"digits of a blank":                   `(cn=\20)`,
		"digits of a tilde":                   `(cn=\7e)`,
		"digits that are none":                `(cn=\2g)`,
		"digits with a plus":                  `(cn=\+2)`,
		"digits with a blank":                 `(cn=\ 2)`,
		"two stars":                           "(cn=**)",
		"three stars":                         "(cn=***)",
		"two stars between":                   "(cn=a**b)",
		"two stars ahead":                     "(cn=**a)",
		"two stars behind":                    "(cn=a**)",
		"two stars behind a middle":           "(cn=*a**)",
		"two stars between middles":           "(cn=*a**b*)",
		"a greater star":                      "(cn>=*)",
		"a lesser star":                       "(cn<=*)",
		"an approximate star":                 "(cn~=*)",
		"a greater part":                      "(cn>=a*)",
		"a lesser part":                       "(cn<=*a)",
		"an approximate part":                 "(cn~=a*b)",
		"17 middles":                          "(cn=*" + strings.Repeat("m*", 17) + ")",
		"1024 middles":                        "(cn=*" + strings.Repeat("m*", 1024) + ")",
		"a value of 1025 bytes":               "(cn=v" + most + ")",
		"a head of 1025 bytes":                "(cn=v" + most + "*)",
		"a middle of 1025 bytes":              "(cn=*v" + most + "*)",
		"a tail of 1025 bytes":                "(cn=*v" + most + ")",
		"a value of 1025 bytes as digits":     "(cn=" + strings.Repeat(`\00`, 1025) + ")",
		"an and without a bracket behind":     "(&",
		"an and of what is cut":               "(&(cn=a)",
		"an and of a bracket":                 "(&(",
		"an and of brackets":                  "(&())",
		"an and of a value":                   "(&a)",
		"an and of no brackets":               "(&cn=a)",
		"an and with an equals sign":          "(&=a)",
		"an and with a blank ahead":           "(& (cn=a))",
		"an and with a blank behind":          "(&(cn=a) )",
		"an and with a blank between":         "(&(cn=a) (sn=b))",
		"an and with a text behind":           "(&(cn=a)b)",
		"an and with a star":                  "(&*)",
		"an and of a bad one":                 "(&(cn=a)(1=b))",
		"an or of a bad one first":            "(|(1=b)(cn=a))",
		"an or of 65":                         "(|" + strings.Repeat("(a=*)", 65) + ")",
		"an or of 400":                        "(|" + strings.Repeat("(a=*)", 400) + ")",
		"two signs ahead":                     "(&|(cn=a))",
		"a not of none":                       "(!)",
		"a not of two":                        "(!(cn=a)(sn=b))",
		"a not of two that are not":           "(!(!(cn=a))(!(cn=a)))",
		"a not without brackets":              "(!cn=a)",
		"a sign alone":                        "&",
		"a sign ahead of brackets":            "&(cn=a)",
		"brackets ahead of a sign":            "((cn=a)&)",
		"another sign ahead":                  "(%(cn=a))",
		"a byte of 0 behind":                  "(cn=a)\x00",
		"a not whose text ends ahead of it":   "(!(cn=a)",
		"a not with a text behind its filter": "(!(cn=a)a)",
	} {
		if !isBad(s) {
			f, err := Read(s)
			t.Errorf("Read of %s: %v, %d", what, f, err)
		}
		if !isBad(above(1, s)) && what != "a sign alone" {
			t.Errorf("Read of a not of %s", what)
		}
		// None, and two, may stand among others; with what stands around it, this one may be two.
		if s != "" && what != "two filters" && what != "two brackets behind" && !isBad("(|(a=*)"+s+"(b=*))") {
			t.Errorf("Read of an or of %s", what)
		}
	}
}

// TestReadDeep goes over levels: 16 of filters may be, whatever stands in the deepest one.
func TestReadDeep(t *testing.T) {
	for _, s := range []string{"(a=*)", "(&)", "(a=b)", "(a=b*c*)"} {
		for n := range 40 {
			f, err := Read(above(n, s))
			if n < 16 && (err != api.OK || filter.Depth(f) != n+1) {
				t.Errorf("Read of %q under %d: %d levels, %d", s, n, filter.Depth(f), err)
			}
			if n >= 16 && !isBad(above(n, s)) {
				t.Errorf("Read of %q under %d: it is one", s, n)
			}
			if list := "(|(b=*)" + above(n, s) + "(c=*))"; isBad(list) != (n >= 15) {
				t.Errorf("Read of %q under %d, between others", s, n)
			}
		}
	}
	for _, s := range []string{above(1364, "(&)"), strings.Repeat("(", 4096), strings.Repeat("(!", 2048), strings.Repeat("(&(a=b)", 585), strings.Repeat("(a", 2048)} {
		if !isBad(s) {
			t.Errorf("Read of very many levels: %q", s[:8])
		}
	}
}

// plain are the forms of filters of attributes, as the chapter tells them; how long something may be, and how often it
// may stand, is not asked, as short texts have not so much.
var (
	plainByte    = `(?:[ !-'+-\[\]-~]|\\(?:[01][0-9a-f]|2[89a]|5c|7f|[89a-f][0-9a-f]))`
	plainName    = `\A\(([A-Za-z][-A-Za-z0-9]*)`
	plainEqual   = regexp.MustCompile(plainName + `(=|>=|<=|~=)(` + plainByte + `*)\)\z`)
	plainPresent = regexp.MustCompile(plainName + `=\*\)\z`)
	plainSubs    = regexp.MustCompile(plainName + `=(` + plainByte + `*)\*((?:` + plainByte + `+\*)*)(` + plainByte + `*)\)\z`)
	plainCode    = regexp.MustCompile(`\\..`)
)

// plainText says which text stands with digits as s.
func plainText(s string) string {
	return plainCode.ReplaceAllStringFunc(s, func(coded string) string {
		b, _ := hex.DecodeString(coded[1:])
		return string(b)
	})
}

// plainSplit says which texts with brackets around them stand one behind the other.
func plainSplit(s string) ([]string, bool) {
	var out []string
	depth, from := 0, 0
	for i, c := range []byte(s) {
		switch c {
		case '(':
			depth++
		case ')':
			depth--
		}
		if depth < 0 || depth == 0 && c != ')' {
			return nil, false
		}
		if depth == 0 {
			out = append(out, s[from:i+1])
			from = i + 1
		}
	}
	return out, depth == 0
}

// plainRead says which short text is a filter, form by form.
func plainRead(s string) (api.Filter, bool) {
	if m := plainPresent.FindStringSubmatch(s); m != nil {
		return present(m[1]), true
	}
	if m := plainEqual.FindStringSubmatch(s); m != nil {
		kind := map[string]int{"=": api.FilterEqual, ">=": api.FilterGreater, "<=": api.FilterLess, "~=": api.FilterApprox}[m[2]]
		return leaf(kind, m[1], plainText(m[3])), true
	}
	if m := plainSubs.FindStringSubmatch(s); m != nil {
		var mids []string
		for _, mid := range strings.SplitAfter(m[3], "*") {
			if mid != "" {
				mids = append(mids, plainText(strings.TrimSuffix(mid, "*")))
			}
		}
		return parts(m[1], plainText(m[2]), plainText(m[4]), mids...), true
	}
	if len(s) < 3 || s[0] != '(' || s[len(s)-1] != ')' || !strings.Contains("&|!", s[1:2]) {
		return api.Filter{}, false
	}
	all, ok := plainSplit(s[2 : len(s)-1])
	if !ok || s[1] == '!' && len(all) != 1 {
		return api.Filter{}, false
	}
	f := api.Filter{Kind: map[byte]int{'&': api.FilterAnd, '|': api.FilterOr, '!': api.FilterNot}[s[1]]}
	for _, one := range all {
		g, ok := plainRead(one)
		if !ok {
			return api.Filter{}, false
		}
		f.List = append(f.List, g)
	}
	return f, true
}

// holdPlain holds Read of s against plainRead.
func holdPlain(t *testing.T, s string) {
	t.Helper()
	f, err := Read(s)
	want, ok := plainRead(s)
	if !ok {
		if err != api.ErrForm || !isZero(f) {
			t.Fatalf("Read of %q: %v, %d", s, f, err)
		}
		return
	}
	if err != api.OK || !filter.Same(f, want) {
		t.Fatalf("Read of %q: %v, %d", s, f, err)
	}
	if again, err := Put(f); err != api.OK || again != s {
		t.Fatalf("Put of Read of %q: %q, %d", s, again, err)
	}
}

// TestReadShort goes over all texts of up to a few of some bytes, by themselves and within others.
func TestReadShort(t *testing.T) {
	var goOver func(s []byte, some string, more int)
	goOver = func(s []byte, some string, more int) {
		holdPlain(t, string(s))
		holdPlain(t, "("+string(s)+")")
		holdPlain(t, "(a"+string(s)+")")
		holdPlain(t, "(a="+string(s)+")")
		holdPlain(t, "(&"+string(s)+")")
		if more == 0 {
			return
		}
		for i := range len(some) {
			goOver(append(s, some[i]), some, more-1)
		}
	}
	goOver(nil, `()&|!=*a>\2~`, 4)
	goOver(nil, `(*)=a!`, 6)
	goOver(nil, `\2a5cC*8`, 5)
	goOver(nil, "\x00\x1f \x7f\x80\xc3\xa4\xff-1_<", 3)
}

// TestReadParts goes over all rows of up to five texts out of some behind an equals sign.
func TestReadParts(t *testing.T) {
	some := []string{"*", "a", "bc", `\2a`, `\ff`, `\`, "(", ")", `\41`, "="}
	var goOver func(s string, more int)
	goOver = func(s string, more int) {
		holdPlain(t, "(cn="+s+")")
		if more == 0 {
			return
		}
		for _, part := range some {
			goOver(s+part, more-1)
		}
	}
	goOver("", 5)
}

// TestReadSpoilt goes over texts of filters in which one byte is another one, lacks, or stands twice.
func TestReadSpoilt(t *testing.T) {
	for _, c := range texts {
		if len(c.s) > 48 {
			continue
		}
		holdPlain(t, c.s)
		for i := range len(c.s) {
			holdPlain(t, c.s[:i])
			holdPlain(t, c.s[i:])
			holdPlain(t, c.s[:i]+c.s[i+1:])
			holdPlain(t, c.s[:i+1]+c.s[i:])
			for b := range 256 {
				holdPlain(t, c.s[:i]+string([]byte{byte(b)})+c.s[i+1:])
			}
		}
	}
}

// pool tells filters whose lists have up to two of list.
func pool(list []api.Filter) []api.Filter {
	out := []api.Filter{of(api.FilterAnd), of(api.FilterOr)}
	for _, a := range list {
		out = append(out, of(api.FilterAnd, a), of(api.FilterOr, a), of(api.FilterNot, a))
		for _, b := range list {
			out = append(out, of(api.FilterAnd, a, b), of(api.FilterOr, a, b))
		}
	}
	return out
}

// TestPool holds that what is put is read, and is never the same for two filters.
func TestPool(t *testing.T) {
	some := []api.Filter{
		present("a"), present("A"), present("aa"), leaf(api.FilterEqual, "a", ""), leaf(api.FilterEqual, "a", "a"),
		leaf(api.FilterEqual, "a", "*"), leaf(api.FilterEqual, "a", ">=a"), leaf(api.FilterEqual, "a", "=a"),
		leaf(api.FilterGreater, "a", "a"), leaf(api.FilterLess, "a", "a"), leaf(api.FilterApprox, "a", "a"),
		parts("a", "a", ""), parts("a", "", "a"), parts("a", "", "", "a"), parts("a", "", "", "a", "a"), parts("a", "", "", "a*a"),
		parts("a", "a", "a"), parts("a", "a", "", "a"), parts("a", "", "a", "a"), parts("a", "a", "a", "a"), parts("a", "aa", ""),
		of(api.FilterAnd),
	}
	leaves := len(some) - 1
	all := slices.Concat(some[:leaves], pool(some), pool(pool(some[:2])[2:]))
	met := map[string]api.Filter{}
	for _, f := range all {
		s, err := Put(f)
		if err != api.OK {
			t.Fatalf("Put of %v: %d", f, err)
		}
		if g, ok := met[s]; ok && !filter.Same(f, g) {
			t.Fatalf("Put of %v, and of %v: %q", f, g, s)
		}
		met[s] = f
		holdPlain(t, s)
		if g, err := Read(s); err != api.OK || !filter.Same(f, g) {
			t.Fatalf("Read of %q: %v, %d", s, g, err)
		}
	}
}

// TestStays holds that no call changes what it is handed, and that what is handed out is memory of its own.
func TestStays(t *testing.T) {
	middles := append(make([]string, 0, 8), "b*", "c(")
	list := append(make([]api.Filter, 0, 8), parts("a", "h", "t", middles...), present("b"), of(api.FilterNot, present("c")))
	f := of(api.FilterAnd, list...)
	s, err := Put(f)
	if err != api.OK {
		t.Fatalf("Put: %d", err)
	}
	for range 3 {
		if again, err := Put(f); err != api.OK || again != s {
			t.Errorf("Put again: %q, %d", again, err)
		}
	}
	if !slices.Equal(middles[:4], []string{"b*", "c(", "", ""}) || !isZero(list[:4][3]) {
		t.Error("what was handed in was changed")
	}
	one, _ := Read(s)
	two, _ := Read(s)
	_ = append(one.List[0].Subs.Mids, "x")
	_ = append(one.List, present("x"))
	if !filter.Same(one, f) {
		t.Errorf("Read, and lists that went on: %v", one)
	}
	one.List[0].Subs.Mids[0] = "x"
	one.List[2].List[0] = present("x")
	one.List[1] = present("x")
	if !filter.Same(two, f) {
		t.Errorf("Read of the same text: %v", two)
	}
}

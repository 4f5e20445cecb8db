package fcode

import (
	"slices"
	"strings"
	"testing"

	"bothy/api"
	"bothy/filter"
)

// leaf tells a filter of an attribute and a value.
func leaf(kind int, attr, value string) api.Filter {
	return api.Filter{Kind: kind, Attr: attr, Value: value}
}

// present tells a filter that asks whether there is an attribute.
func present(attr string) api.Filter {
	return leaf(api.FilterPresent, attr, "")
}

// parts tells a filter of parts of a value.
func parts(attr, head, tail string, mids ...string) api.Filter {
	return api.Filter{Kind: api.FilterSubs, Attr: attr, Subs: api.Subs{Head: head, Mids: mids, Tail: tail}}
}

// of tells a filter of this kind, of filters.
func of(kind int, list ...api.Filter) api.Filter {
	return api.Filter{Kind: kind, List: list}
}

// times tells n times f.
func times(n int, f api.Filter) []api.Filter {
	return slices.Repeat([]api.Filter{f}, n)
}

// under tells f with n levels above it.
func under(n int, f api.Filter) api.Filter {
	for range n {
		f = of(api.FilterNot, f)
	}
	return f
}

// wrapped tells a tag, the shortest length of body, and body.
func wrapped(tag byte, body string) string {
	n := len(body)
	switch {
	case n < 1<<7:
		return string([]byte{tag, byte(n)}) + body
	case n < 1<<8:
		return string([]byte{tag, 0x81, byte(n)}) + body
	case n < 1<<16:
		return string([]byte{tag, 0x82, byte(n >> 8), byte(n)}) + body
	}
	return string([]byte{tag, 0x83, byte(n >> 16), byte(n >> 8), byte(n)}) + body
}

// above tells s within n times tag 162.
func above(n int, s string) string {
	for range n {
		s = wrapped(0xa2, s)
	}
	return s
}

// isBad tells whether Read tells of s that it is no filter.
func isBad(s string) bool {
	f, err := Read(s)
	return err == api.ErrForm && isZero(f)
}

// isZero tells whether all fields of f are empty.
func isZero(f api.Filter) bool {
	return f.Kind == 0 && f.Attr == "" && f.Value == "" && f.Subs.Head == "" && f.Subs.Mids == nil && f.Subs.Tail == "" && f.List == nil
}

var (
	most = strings.Repeat("v", 1024)
	name = strings.Repeat("n", 64)
	mids = slices.Repeat([]string{"m"}, 16)
)

// coded are filters, and their bytes written out by hand.
var coded = []struct {
	f api.Filter
	s string
}{
	{present("cn"), "\x87\x02cn"},
	{present("CN"), "\x87\x02CN"},
	{present("a-1"), "\x87\x03a-1"},
	{present(name), "\x87\x40" + name},
	{leaf(api.FilterEqual, "cn", "a"), "\xa3\x07\x04\x02cn\x04\x01a"},
	{leaf(api.FilterEqual, "cn", ""), "\xa3\x06\x04\x02cn\x04\x00"},
	{leaf(api.FilterEqual, "cn", "\x00\xff*()\\"), "\xa3\x0c\x04\x02cn\x04\x06\x00\xff*()\\"},
	{leaf(api.FilterEqual, "cn", "\x04\x01a"), "\xa3\x09\x04\x02cn\x04\x03\x04\x01a"},
	{leaf(api.FilterGreater, "sn", "b"), "\xa5\x07\x04\x02sn\x04\x01b"},
	{leaf(api.FilterLess, "o", "cd"), "\xa6\x07\x04\x01o\x04\x02cd"},
	{leaf(api.FilterApprox, "uid", "e"), "\xa8\x08\x04\x03uid\x04\x01e"},
	{leaf(api.FilterEqual, "c", most[:120]), "\xa3\x7d\x04\x01c\x04\x78" + most[:120]},
	{leaf(api.FilterEqual, "c", most[:122]), "\xa3\x7f\x04\x01c\x04\x7a" + most[:122]},
	{leaf(api.FilterEqual, "c", most[:123]), "\xa3\x81\x80\x04\x01c\x04\x7b" + most[:123]},
	{leaf(api.FilterEqual, "c", most[:128]), "\xa3\x81\x86\x04\x01c\x04\x81\x80" + most[:128]},
	{leaf(api.FilterLess, name, most), "\xa6\x82\x04\x46\x04\x40" + name + "\x04\x82\x04\x00" + most},
	{parts("cn", "abc", ""), "\xa4\x0b\x04\x02cn\x30\x05\x80\x03abc"},
	{parts("cn", "", "", "b"), "\xa4\x09\x04\x02cn\x30\x03\x81\x01b"},
	{parts("cn", "", "c"), "\xa4\x09\x04\x02cn\x30\x03\x82\x01c"},
	{parts("cn", "a", "c"), "\xa4\x0c\x04\x02cn\x30\x06\x80\x01a\x82\x01c"},
	{parts("cn", "a", "", "b"), "\xa4\x0c\x04\x02cn\x30\x06\x80\x01a\x81\x01b"},
	{parts("cn", "", "c", "b", "b"), "\xa4\x0f\x04\x02cn\x30\x09\x81\x01b\x81\x01b\x82\x01c"},
	{parts("cn", "a", "d", "b", "c"), "\xa4\x12\x04\x02cn\x30\x0c\x80\x01a\x81\x01b\x81\x01c\x82\x01d"},
	{parts("cn", "h", "t", mids...), "\xa4\x3c\x04\x02cn\x30\x36\x80\x01h" + strings.Repeat("\x81\x01m", 16) + "\x82\x01t"},
	{of(api.FilterAnd), "\xa0\x00"},
	{api.Filter{}, "\xa0\x00"},
	{of(api.FilterOr), "\xa1\x00"},
	{api.Filter{Kind: api.FilterOr, List: []api.Filter{}, Subs: api.Subs{Mids: []string{}}}, "\xa1\x00"},
	{of(api.FilterNot, present("sn")), "\xa2\x04\x87\x02sn"},
	{of(api.FilterNot, of(api.FilterAnd)), "\xa2\x02\xa0\x00"},
	{of(api.FilterNot, of(api.FilterNot, of(api.FilterOr))), "\xa2\x04\xa2\x02\xa1\x00"},
	{of(api.FilterAnd, present("b"), present("a"), present("b")), "\xa0\x09\x87\x01b\x87\x01a\x87\x01b"},
	{of(api.FilterOr, leaf(api.FilterEqual, "a", "x"), of(api.FilterAnd, present("b")), present("c")), "\xa1\x10\xa3\x06\x04\x01a\x04\x01x\xa0\x03\x87\x01b\x87\x01c"},
	{of(api.FilterAnd, times(42, present("a"))...), "\xa0\x7e" + strings.Repeat("\x87\x01a", 42)},
	{of(api.FilterAnd, times(43, present("a"))...), "\xa0\x81\x81" + strings.Repeat("\x87\x01a", 43)},
	{of(api.FilterAnd, times(64, present("a"))...), "\xa0\x81\xc0" + strings.Repeat("\x87\x01a", 64)},
	{of(api.FilterOr, times(64, of(api.FilterOr))...), "\xa1\x81\x80" + strings.Repeat("\xa1\x00", 64)},
	{under(15, present("a")), above(15, "\x87\x01a")},
	{under(15, leaf(api.FilterApprox, "a", "b")), above(15, "\xa8\x06\x04\x01a\x04\x01b")},
	{under(15, parts("a", "b", "")), above(15, "\xa4\x08\x04\x01a\x30\x03\x80\x01b")},
	{under(15, of(api.FilterAnd)), above(15, "\xa0\x00")},
}

func TestPut(t *testing.T) {
	for _, c := range coded {
		if s, err := Put(c.f); err != api.OK || s != c.s {
			t.Errorf("Put of what is %q: %q, %d", c.s, s, err)
		}
	}
}

func TestRead(t *testing.T) {
	for _, c := range coded {
		if f, err := Read(c.s); err != api.OK || !filter.Same(f, c.f) {
			t.Errorf("Read of %q: %v, %d", c.s, f, err)
		}
	}
}

// TestPutChecks holds that Put tells Check's error, whichever it is, and wherever it stands.
func TestPutChecks(t *testing.T) {
	for _, c := range []struct {
		f    api.Filter
		want api.Errno
	}{
		{leaf(9, "cn", "a"), api.ErrArg},
		{leaf(-1, "cn", "a"), api.ErrArg},
		{leaf(api.FilterEqual+256, "cn", "a"), api.ErrArg},
		{of(api.FilterAnd, times(65, present("a"))...), api.ErrLong},
		{of(api.FilterNot), api.ErrForm},
		{of(api.FilterNot, present("a"), present("b")), api.ErrForm},
		{leaf(api.FilterPresent, "cn", "a"), api.ErrForm},
		{leaf(api.FilterAnd, "cn", ""), api.ErrForm},
		{leaf(api.FilterSubs, "cn", ""), api.ErrForm},
		{parts("cn", "a", "b", ""), api.ErrForm},
		{parts("cn", "a", "b", append(mids, "m")...), api.ErrForm},
		{present(""), api.ErrName},
		{present("1"), api.ErrName},
		{present(name + "n"), api.ErrName},
		{leaf(api.FilterEqual, "c n", "a"), api.ErrName},
		{leaf(api.FilterEqual, "cn", most+"v"), api.ErrLong},
		{parts("cn", "", "", most+"v"), api.ErrLong},
		{under(16, present("a")), api.ErrDeep},
		{of(api.FilterAnd, present("a"), leaf(9, "cn", ""), present("1")), api.ErrArg},
		// A filter that is too long as bytes, with another error behind.
		{of(api.FilterAnd, append(times(63, leaf(api.FilterEqual, "cn", most)), leaf(9, "cn", ""))...), api.ErrArg},
		{of(api.FilterOr, of(api.FilterAnd, times(64, leaf(api.FilterEqual, "cn", most))...), present("1")), api.ErrName},
	} {
		if s, err := Put(c.f); err != c.want || s != "" {
			t.Errorf("Put of %v: %q, %d", c.f, s, err)
		}
		want := c.want
		if filter.Depth(c.f) > 15 {
			want = api.ErrDeep
		}
		if s, err := Put(of(api.FilterOr, c.f)); err != want || s != "" {
			t.Errorf("Put of an or of %v: %q, %d", c.f, s, err)
		}
	}
}

// ofBytes tells an and whose body has n bytes, at least 1036.
func ofBytes(n int) api.Filter {
	// Of each filter in it 11 bytes are tags, lengths and a name, where its value has at least 256.
	valued := func(n int) api.Filter { return leaf(api.FilterEqual, "a", most[:n-11]) }
	var list []api.Filter
	for n > 2*1035 {
		list = append(list, valued(1035))
		n -= 1035
	}
	return of(api.FilterAnd, append(list, valued(n/2), valued(n-n/2))...)
}

// TestLongest goes over the edges of a body: one of MaxBody bytes may be, wherever it stands.
func TestLongest(t *testing.T) {
	for n := api.MaxBody - 8; n <= api.MaxBody+3; n++ {
		f := ofBytes(n)
		if err := filter.Check(f); err != api.OK {
			t.Fatalf("Check of what should have %d bytes: %d", n, err)
		}
		body := ""
		for _, g := range f.List {
			body += wrapped(0xa3, wrapped(4, g.Attr)+wrapped(4, g.Value))
		}
		if len(body) != n {
			t.Fatalf("%d bytes, not %d", len(body), n)
		}
		s, err := Put(f)
		if n > api.MaxBody {
			if s != "" || err != api.ErrLong {
				t.Errorf("Put of %d bytes: %d bytes, %d", n, len(s), err)
			}
			if !isBad(wrapped(0xa0, body)) {
				t.Errorf("Read of %d bytes: it is one", n)
			}
			continue
		}
		if s != wrapped(0xa0, body) || err != api.OK {
			t.Errorf("Put of %d bytes: %d bytes, %d", n, len(s), err)
		}
		if g, err := Read(s); err != api.OK || !filter.Same(f, g) {
			t.Errorf("Read of %d bytes: %d filters, %d", n, len(g.List), err)
		}
		// Its tag and its length stand in the body of what is above it.
		want, wantErr := wrapped(0xa2, s), api.OK
		if len(s) > api.MaxBody {
			want, wantErr = "", api.ErrLong
		}
		if up, err := Put(of(api.FilterNot, f)); up != want || err != wantErr {
			t.Errorf("Put of a not of %d bytes: %d bytes, %d", len(s), len(up), err)
		}
		if isBad(wrapped(0xa2, s)) != (wantErr != api.OK) {
			t.Errorf("Read of a not of %d bytes", len(s))
		}
	}
}

// TestShared holds that filters that share lists, and are far more than can be gone over, end soon.
func TestShared(t *testing.T) {
	for _, f := range []api.Filter{of(api.FilterAnd), present("a"), leaf(api.FilterEqual, name, most), parts("a", most, most, most)} {
		for n := range 16 {
			s, err := Put(f)
			if n > 3 && (s != "" || err != api.ErrLong) {
				t.Errorf("Put of %d levels of 64: %d bytes, %d", n, len(s), err)
			}
			f = of(api.FilterOr, times(64, f)...)
		}
		if s, err := Put(f); s != "" || err != api.ErrDeep {
			t.Errorf("Put of 16 levels of 64: %d bytes, %d", len(s), err)
		}
	}
	list := make([]api.Filter, 1)
	list[0] = of(api.FilterNot, list...)
	list[0].List = list
	if s, err := Put(list[0]); s != "" || err != api.ErrDeep {
		t.Errorf("Put of what stands in itself: %q, %d", s, err)
	}
	// Two levels of one list are put as often as they stand.
	low := of(api.FilterOr, present("a"))
	if s, err := Put(of(api.FilterAnd, low, of(api.FilterNot, low), low)); err != api.OK || s != "\xa0\x11\xa1\x03\x87\x01a\xa2\x05\xa1\x03\x87\x01a\xa1\x03\x87\x01a" {
		t.Errorf("Put of what stands three times: %q, %d", s, err)
	}
}

// TestReadWrong goes over bytes that are no filter's.
func TestReadWrong(t *testing.T) {
	for what, s := range map[string]string{
		"no bytes":                           "",
		"a tag alone":                        "\xa0",
		"a tag that is none":                 "\xbf\x00",
		"a length without an end":            "\xa0\x80",
		"a length that is cut":               "\xa0\x82\x01",
		"a length of two bytes":              "\xa0\x81\x00",
		"a length of two bytes within":       "\xa2\x05\x87\x81\x02cn",
		"a length of two bytes in a pair":    "\xa3\x08\x04\x81\x02cn\x04\x01a",
		"a length of two bytes of subs":      "\xa4\x0a\x04\x02cn\x30\x81\x03\x80\x01a",
		"a length of two bytes in subs":      "\xa4\x0a\x04\x02cn\x30\x04\x80\x81\x01a",
		"a body that is cut":                 "\x87\x03cn",
		"a byte behind":                      "\x87\x02cnx",
		"a filter behind":                    "\x87\x02cn\x87\x02cn",
		"a byte behind an and":               "\xa0\x00\x00",
		"two bytes behind an and":            "\xa0\x00\x05\x00",
		"a byte within behind":               "\xa0\x05\x87\x02cnx",
		"a presence without a name":          "\x87\x00",
		"a presence of a digit":              "\x87\x011",
		"a presence of a blank":              "\x87\x01 ",
		"a presence of 65 bytes":             "\x87\x41n" + name,
		"a presence with parts":              "\xa7\x02cn",
		"a presence with an attribute":       "\xa7\x04\x04\x02cn",
		"a presence of an attribute":         "\x87\x04\x04\x02cn",
		"a presence of another class":        "\x07\x02cn",
		"a presence of a third class":        "\x47\x02cn",
		"an and without parts":               "\x80\x00",
		"an and of another class":            "\x20\x00",
		"an and of a third class":            "\x60\x00",
		"a fourth class":                     "\xe0\x00",
		"a list":                             "\x30\x00",
		"a not of none":                      "\xa2\x00",
		"a not of two":                       "\xa2\x06\x87\x01a\x87\x01b",
		"a not of no filter":                 "\xa2\x02\x04\x00",
		"an and of a text":                   "\xa0\x03\x04\x01a",
		"an and of a bad one":                "\xa0\x06\x87\x01a\x87\x011",
		"an or of a bad one first":           "\xa1\x06\x87\x011\x87\x01a",
		"an or of 65":                        "\xa1\x81\xc3" + strings.Repeat("\x87\x01a", 65),
		"an and of 1024":                     wrapped(0xa0, strings.Repeat("\x87\x01a", 1024)),
		"an and of 1025":                     wrapped(0xa0, strings.Repeat("\x87\x01a", 1025)),
		"an equal without parts":             "\x83\x07\x04\x02cn\x04\x01a",
		"an equal of nothing":                "\xa3\x00",
		"an equal without a value":           "\xa3\x04\x04\x02cn",
		"an equal with two values":           "\xa3\x0a\x04\x02cn\x04\x01a\x04\x01b",
		"an equal with an end":               "\xa3\x09\x04\x02cn\x04\x01a\x05\x00",
		"an equal with another first tag":    "\xa3\x07\x0c\x02cn\x04\x01a",
		"an equal with another second tag":   "\xa3\x07\x04\x02cn\x0c\x01a",
		"an equal with a first tag of parts": "\xa3\x07\x24\x02cn\x04\x01a",
		"an equal with a first tag of 135":   "\xa3\x07\x87\x02cn\x04\x01a",
		"an equal without a name":            "\xa3\x05\x04\x00\x04\x01a",
		"an equal of a bad name":             "\xa3\x07\x04\x02c_\x04\x01a",
		"an equal of 1025 bytes":             wrapped(0xa3, "\x04\x01a"+wrapped(4, most+"v")),
		"an equal of parts of a value":       "\xa3\x09\x04\x02cn\x30\x03\x80\x01a",
		"parts of a value that is a text":    "\xa4\x07\x04\x02cn\x04\x01a",
		"parts without parts":                "\x84\x09\x04\x02cn\x30\x03\x80\x01a",
		"no parts of a value":                "\xa4\x06\x04\x02cn\x30\x00",
		"no list of parts":                   "\xa4\x04\x04\x02cn",
		"parts without an attribute":         "\xa4\x05\x30\x03\x80\x01a",
		"parts ahead of the attribute":       "\xa4\x09\x30\x03\x80\x01a\x04\x02cn",
		"parts twice":                        "\xa4\x0e\x04\x02cn\x30\x03\x80\x01a\x30\x03\x80\x01a",
		"parts with something behind":        "\xa4\x0b\x04\x02cn\x30\x03\x80\x01a\x05\x00",
		"parts in another list":              "\xa4\x09\x04\x02cn\x31\x03\x80\x01a",
		"parts of another attribute's tag":   "\xa4\x09\x0c\x02cn\x30\x03\x80\x01a",
		"parts of a bad name":                "\xa4\x09\x04\x02-n\x30\x03\x80\x01a",
		"an empty head":                      "\xa4\x08\x04\x02cn\x30\x02\x80\x00",
		"an empty middle":                    "\xa4\x08\x04\x02cn\x30\x02\x81\x00",
		"an empty tail":                      "\xa4\x08\x04\x02cn\x30\x02\x82\x00",
		"an empty head ahead of a middle":    "\xa4\x0b\x04\x02cn\x30\x05\x80\x00\x81\x01b",
		"an empty middle behind a head":      "\xa4\x0b\x04\x02cn\x30\x05\x80\x01a\x81\x00",
		"an empty tail behind a head":        "\xa4\x0b\x04\x02cn\x30\x05\x80\x01a\x82\x00",
		"two heads":                          "\xa4\x0c\x04\x02cn\x30\x06\x80\x01a\x80\x01a",
		"two tails":                          "\xa4\x0c\x04\x02cn\x30\x06\x82\x01a\x82\x01a",
		"a head behind a middle":             "\xa4\x0c\x04\x02cn\x30\x06\x81\x01b\x80\x01a",
		"a head behind a tail":               "\xa4\x0c\x04\x02cn\x30\x06\x82\x01b\x80\x01a",
		"a middle behind a tail":             "\xa4\x0c\x04\x02cn\x30\x06\x82\x01b\x81\x01a",
		"a middle on both sides of a tail":   "\xa4\x0f\x04\x02cn\x30\x09\x81\x01b\x82\x01b\x81\x01b",
		"a fourth kind of part":              "\xa4\x09\x04\x02cn\x30\x03\x83\x01a",
		"a fourth kind of part behind":       "\xa4\x0c\x04\x02cn\x30\x06\x80\x01a\x83\x01a",
		"a text as a part":                   "\xa4\x09\x04\x02cn\x30\x03\x04\x01a",
		"a part with parts":                  "\xa4\x0a\x04\x02cn\x30\x04\xa0\x02\x04\x00",
		"a part that is cut":                 "\xa4\x09\x04\x02cn\x30\x03\x80\x02a",
		"17 middles":                         wrapped(0xa4, "\x04\x02cn"+wrapped(48, strings.Repeat("\x81\x01m", 17))),
		"a middle of 1025 bytes":             wrapped(0xa4, "\x04\x02cn"+wrapped(48, wrapped(0x81, most+"v"))),
		"1025 middles":                       wrapped(0xa4, "\x04\x02cn"+wrapped(48, strings.Repeat("\x81\x01m", 1025))),
		"a filter of another kind":           "\xa9\x07\x04\x02cn\x04\x01a",
		"a filter of a kind of three parts":  "\xa9\x0a\x81\x01a\x82\x01b\x83\x01c",
	} {
		if !isBad(s) {
			f, err := Read(s)
			t.Errorf("Read of %s: %v, %d", what, f, err)
		}
		if !isBad(above(1, s)) {
			t.Errorf("Read of a not of %s", what)
		}
		// None, and two, may stand among others.
		if s != "" && s != "\x87\x02cn\x87\x02cn" && !isBad(wrapped(0xa1, "\x87\x01a"+s+"\x87\x01b")) {
			t.Errorf("Read of an or of %s", what)
		}
	}
}

// TestReadTags goes over all tags: of a presence, of what has a value, of a list, and of parts.
func TestReadTags(t *testing.T) {
	for tag := range 256 {
		b := byte(tag)
		for _, c := range []struct {
			s    string
			good bool
		}{
			{wrapped(b, "cn"), tag == 135},
			{wrapped(b, "\x04\x02cn\x04\x01a"), tag == 160+3 || tag == 160+5 || tag == 160+6 || tag == 160+8},
			{wrapped(b, "\x87\x02cn"), tag == 160 || tag == 161 || tag == 162},
			{wrapped(b, "\x87\x02cn\x87\x02sn"), tag == 160 || tag == 161},
			{wrapped(b, ""), tag == 160 || tag == 161},
			{wrapped(b, "\x04\x02cn\x30\x03\x80\x01a"), tag == 164},
			{wrapped(0xa4, "\x04\x02cn"+wrapped(b, "\x80\x01a")), tag == 48},
			{wrapped(0xa4, wrapped(b, "cn")+"\x30\x03\x80\x01a"), tag == 4},
			{wrapped(0xa4, "\x04\x02cn\x30\x03"+wrapped(b, "a")), tag >= 128 && tag <= 130},
			{wrapped(0xa4, "\x04\x02cn\x30\x06"+wrapped(b, "a")+"\x81\x01b"), tag == 128 || tag == 129},
			{wrapped(0xa4, "\x04\x02cn\x30\x06\x81\x01b"+wrapped(b, "a")), tag == 129 || tag == 130},
			{wrapped(0xa5, "\x04\x02cn"+wrapped(b, "a")), tag == 4},
			{wrapped(0xa6, wrapped(b, "cn")+"\x04\x01a"), tag == 4},
		} {
			f, err := Read(c.s)
			if !c.good {
				if !isBad(c.s) {
					t.Errorf("Read of %q: %v, %d", c.s, f, err)
				}
				continue
			}
			if s, _ := Put(f); err != api.OK || s != c.s {
				t.Errorf("Read of %q: %v, %d", c.s, f, err)
			}
		}
	}
}

// TestReadDeep goes over levels: 16 of filters may be, whatever stands in the deepest one.
func TestReadDeep(t *testing.T) {
	for _, s := range []string{"\x87\x01a", "\xa0\x00", "\xa3\x06\x04\x01a\x04\x01b", "\xa4\x08\x04\x01a\x30\x03\x80\x01b"} {
		for n := range 40 {
			f, err := Read(above(n, s))
			if n < 16 && (err != api.OK || filter.Depth(f) != n+1) {
				t.Errorf("Read of %q under %d: %d levels, %d", s, n, filter.Depth(f), err)
			}
			if n >= 16 && !isBad(above(n, s)) {
				t.Errorf("Read of %q under %d: it is one", s, n)
			}
			if list := wrapped(0xa1, "\x87\x01b"+above(n, s)+"\x87\x01c"); isBad(list) != (n >= 15) {
				t.Errorf("Read of %q under %d, between others", s, n)
			}
		}
	}
	deep := "\xa0\x00"
	for len(deep) < api.MaxBody-4 {
		deep = wrapped(0xa2, deep)
	}
	if !isBad(deep) || !isBad(deep+deep) || !isBad(strings.Repeat("\xa2\x84\x00\x01\x00\x00", 1<<16)) || !isBad(strings.Repeat("\xa0\x00", 1<<20)) {
		t.Error("Read of very many levels")
	}
}

// plainAll tells the tags and bodies of parts that stand one behind the other, each length below 128.
func plainAll(s string) ([]api.TLV, bool) {
	var out []api.TLV
	for s != "" {
		if len(s) < 2 || s[0]&31 == 31 || s[1] > 127 || len(s)-2 < int(s[1]) {
			return nil, false
		}
		end := 2 + int(s[1])
		out = append(out, api.TLV{Tag: int(s[0]), Body: s[2:end]})
		s = s[end:]
	}
	return out, true
}

// plainRead says which short bytes are a filter, part by part as the chapter tells them; how often something may
// stand, and how long it may be, is not asked, as bytes that are short have not so many.
func plainRead(s string) (api.Filter, bool) {
	all, ok := plainAll(s)
	if !ok || len(all) != 1 {
		return api.Filter{}, false
	}
	one := all[0]
	if one.Tag == 135 {
		return present(one.Body), isPlainName(one.Body)
	}
	parts, ok := plainAll(one.Body)
	if !ok {
		return api.Filter{}, false
	}
	switch one.Tag {
	case 160, 161, 162:
		f := api.Filter{Kind: one.Tag - 160}
		for _, p := range parts {
			g, ok := plainRead(string([]byte{byte(p.Tag), byte(len(p.Body))}) + p.Body)
			if !ok {
				return api.Filter{}, false
			}
			f.List = append(f.List, g)
		}
		return f, one.Tag != 162 || len(parts) == 1
	case 163, 164, 165, 166, 168:
		if len(parts) != 2 || parts[0].Tag != 4 || !isPlainName(parts[0].Body) {
			return api.Filter{}, false
		}
		f := leaf(one.Tag-160, parts[0].Body, "")
		if one.Tag == 164 {
			f.Subs, ok = plainSubs(parts[1])
			return f, ok
		}
		f.Value = parts[1].Body
		return f, parts[1].Tag == 4
	}
	return api.Filter{}, false
}

// plainSubs says which part of a filter is parts of a value.
func plainSubs(one api.TLV) (api.Subs, bool) {
	parts, ok := plainAll(one.Body)
	if one.Tag != 48 || !ok || len(parts) == 0 {
		return api.Subs{}, false
	}
	var p api.Subs
	for i, part := range parts {
		switch {
		case part.Body == "":
			return api.Subs{}, false
		case i == 0 && part.Tag == 128:
			p.Head = part.Body
		case i == len(parts)-1 && part.Tag == 130:
			p.Tail = part.Body
		case part.Tag == 129:
			p.Mids = append(p.Mids, part.Body)
		default:
			return api.Subs{}, false
		}
	}
	return p, true
}

// isPlainName says which short bytes are the name of an attribute.
func isPlainName(s string) bool {
	const letters = "abcdefghijklmnopqrstuvwxyzABCDEFGHIJKLMNOPQRSTUVWXYZ"
	return s != "" && strings.Contains(letters, s[:1]) && strings.Trim(s, letters+"0123456789-") == ""
}

// holdPlain holds Read of s against plainRead.
func holdPlain(t *testing.T, s string) {
	t.Helper()
	f, err := Read(s)
	want, ok := plainRead(s)
	if !ok {
		if err != api.ErrForm || !isZero(f) {
			t.Fatalf("Read of %q: %v, %d", s, f, err)
		}
		return
	}
	if err != api.OK || !filter.Same(f, want) {
		t.Fatalf("Read of %q: %v, %d", s, f, err)
	}
	if again, err := Put(f); err != api.OK || again != s {
		t.Fatalf("Put of Read of %q: %q, %d", s, again, err)
	}
}

// TestReadShort goes over all texts of up to five of some bytes, by themselves and within others.
func TestReadShort(t *testing.T) {
	some := []byte{0, 1, 2, 3, 4, 48, 'a', 128, 129, 130, 135, 160, 161, 162, 163, 164}
	var goOver func(s []byte, more int)
	goOver = func(s []byte, more int) {
		holdPlain(t, string(s))
		holdPlain(t, wrapped(0xa2, string(s)))
		holdPlain(t, wrapped(0xa3, "\x04\x01a"+string(s)))
		holdPlain(t, wrapped(0xa4, "\x04\x01a"+string(s)))
		holdPlain(t, wrapped(0xa4, "\x04\x01a"+wrapped(48, string(s))))
		if more == 0 {
			return
		}
		for _, b := range some {
			goOver(append(s, b), more-1)
		}
	}
	goOver(nil, 5)
}

// TestReadParts goes over all lists of up to five parts of a value out of some.
func TestReadParts(t *testing.T) {
	some := []string{"\x80\x01a", "\x81\x01a", "\x82\x01a", "\x81\x02bc", "\x80\x00", "\x81\x00", "\x82\x00", "\x83\x01a", "\x04\x01a"}
	var goOver func(s string, more int)
	goOver = func(s string, more int) {
		holdPlain(t, wrapped(0xa4, "\x04\x02cn"+wrapped(48, s)))
		if more == 0 {
			return
		}
		for _, part := range some {
			goOver(s+part, more-1)
		}
	}
	goOver("", 5)
}

// TestReadSpoilt goes over bytes of filters in which one byte is another one, lacks, or stands twice.
func TestReadSpoilt(t *testing.T) {
	for _, c := range coded {
		if len(c.s) > 48 {
			continue
		}
		holdPlain(t, c.s)
		for i := range len(c.s) {
			holdPlain(t, c.s[:i])
			holdPlain(t, c.s[i:])
			holdPlain(t, c.s[:i]+c.s[i+1:])
			holdPlain(t, c.s[:i+1]+c.s[i:])
			for b := range 256 {
				holdPlain(t, c.s[:i]+string([]byte{byte(b)})+c.s[i+1:])
			}
		}
	}
}

// pool tells filters whose lists have up to two of list.
func pool(list []api.Filter) []api.Filter {
	out := []api.Filter{of(api.FilterAnd), of(api.FilterOr)}
	for _, a := range list {
		out = append(out, of(api.FilterAnd, a), of(api.FilterOr, a), of(api.FilterNot, a))
		for _, b := range list {
			out = append(out, of(api.FilterAnd, a, b), of(api.FilterOr, a, b))
		}
	}
	return out
}

// TestPool holds that what is put is read, and is never the same for two filters.
func TestPool(t *testing.T) {
	some := []api.Filter{
		present("a"), present("A"), present("aa"), leaf(api.FilterEqual, "a", ""), leaf(api.FilterEqual, "a", "a"),
		leaf(api.FilterGreater, "a", "a"), leaf(api.FilterLess, "a", "a"), leaf(api.FilterApprox, "a", "a"),
		parts("a", "a", ""), parts("a", "", "a"), parts("a", "", "", "a"), parts("a", "", "", "a", "a"), parts("a", "a", "a"),
		parts("a", "a", "", "a"), parts("a", "", "a", "a"), parts("a", "a", "a", "a"), parts("a", "aa", ""), of(api.FilterAnd),
	}
	all := slices.Concat(some[:17], pool(some), pool(pool(some[:2])[2:]))
	met := map[string]api.Filter{}
	for _, f := range all {
		s, err := Put(f)
		if err != api.OK {
			t.Fatalf("Put of %v: %d", f, err)
		}
		if g, ok := met[s]; ok && !filter.Same(f, g) {
			t.Fatalf("Put of %v, and of %v: %q", f, g, s)
		}
		met[s] = f
		holdPlain(t, s)
		if g, err := Read(s); err != api.OK || !filter.Same(f, g) {
			t.Fatalf("Read of %q: %v, %d", s, g, err)
		}
	}
}

// TestStays holds that no call changes what it is handed, and that what is handed out is memory of its own.
func TestStays(t *testing.T) {
	middles := append(make([]string, 0, 8), "b", "c")
	list := append(make([]api.Filter, 0, 8), parts("a", "h", "t", middles...), present("b"), of(api.FilterNot, present("c")))
	f := of(api.FilterAnd, list...)
	s, err := Put(f)
	if err != api.OK {
		t.Fatalf("Put: %d", err)
	}
	for range 3 {
		if again, err := Put(f); err != api.OK || again != s {
			t.Errorf("Put again: %q, %d", again, err)
		}
	}
	if !slices.Equal(middles[:4], []string{"b", "c", "", ""}) || !isZero(list[:4][3]) {
		t.Error("what was handed in was changed")
	}
	one, _ := Read(s)
	two, _ := Read(s)
	_ = append(one.List[0].Subs.Mids, "x")
	_ = append(one.List, present("x"))
	one.List[0].Subs.Mids[0] = "x"
	one.List[2].List[0] = present("x")
	one.List[1] = present("x")
	if !filter.Same(two, f) {
		t.Errorf("Read of the same bytes: %v", two)
	}
}

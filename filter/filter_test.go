package filter

import (
	"math"
	"slices"
	"strconv"
	"strings"
	"testing"

	"bothy/api"
)

// leaf tells a filter of an attribute.
func leaf(kind int, attr, value string) api.Filter {
	return api.Filter{Kind: kind, Attr: attr, Value: value}
}

// present tells a filter that asks whether there is an attribute.
func present(attr string) api.Filter {
	return leaf(api.FilterPresent, attr, "")
}

// parts tells a filter of parts of a value.
func parts(attr, head, tail string, mids ...string) api.Filter {
	return api.Filter{Kind: api.FilterSubs, Attr: attr, Subs: api.Subs{Head: head, Mids: mids, Tail: tail}}
}

// of tells a filter of this kind, of filters.
func of(kind int, list ...api.Filter) api.Filter {
	return api.Filter{Kind: kind, List: list}
}

// times tells n times f.
func times(n int, f api.Filter) []api.Filter {
	var list []api.Filter
	for range n {
		list = append(list, f)
	}
	return list
}

// under tells f with n levels above it.
func under(n int, f api.Filter) api.Filter {
	for range n {
		f = of(api.FilterNot, f)
	}
	return f
}

// doubled tells f with n levels above it, each of which has the one below it twice, in one list.
func doubled(n int, f api.Filter) api.Filter {
	for range n {
		f = of(api.FilterAnd, f, f)
	}
	return f
}

// loop tells a filter that stands n times in its own list, with attributes.
func loop(n int) api.Filter {
	list := make([]api.Filter, n)
	for i := range list {
		list[i] = api.Filter{Kind: api.FilterOr, Attr: "A" + strconv.Itoa(i), List: list}
	}
	return api.Filter{Kind: api.FilterOr, Attr: "A0", List: list}
}

// isFilter tells whether two filters that end are the same; lists that are empty are.
func isFilter(a, b api.Filter) bool {
	return a.Kind == b.Kind && a.Attr == b.Attr && a.Value == b.Value &&
		a.Subs.Head == b.Subs.Head && a.Subs.Tail == b.Subs.Tail &&
		slices.Equal(a.Subs.Mids, b.Subs.Mids) && slices.EqualFunc(a.List, b.List, isFilter)
}

// copied tells f in memory of its own.
func copied(f api.Filter) api.Filter {
	f.Subs.Mids = slices.Clone(f.Subs.Mids)
	f.List = slices.Clone(f.List)
	for i, g := range f.List {
		f.List[i] = copied(g)
	}
	return f
}

// kinds are all kinds of filters, and ofAttr those of an attribute.
var (
	kinds  = []int{api.FilterAnd, api.FilterOr, api.FilterNot, api.FilterEqual, api.FilterSubs, api.FilterGreater, api.FilterLess, api.FilterPresent, api.FilterApprox}
	ofAttr = kinds[3:]
)

// good tells a filter of this kind that may be.
func good(kind int) api.Filter {
	switch kind {
	case api.FilterAnd, api.FilterOr, api.FilterNot:
		return of(kind, present("cn"))
	case api.FilterSubs:
		return parts("cn", "a", "")
	case api.FilterPresent:
		return present("cn")
	}
	return leaf(kind, "cn", "a")
}

// hasValue tells whether filters of this kind have a value.
func hasValue(kind int) bool {
	return kind == api.FilterEqual || kind == api.FilterGreater || kind == api.FilterLess || kind == api.FilterApprox
}

func TestCheck(t *testing.T) {
	long, most := strings.Repeat("a", 1025), strings.Repeat("a", 1024)
	mids := slices.Repeat([]string{"m"}, 17)
	for _, c := range []struct {
		what string
		f    api.Filter
		want api.Errno
	}{
		{"an and", of(api.FilterAnd, leaf(api.FilterEqual, "cn", "a"), present("sn")), api.OK},
		{"an or", of(api.FilterOr, leaf(api.FilterGreater, "cn", "a"), leaf(api.FilterLess, "cn", "b")), api.OK},
		{"a not", of(api.FilterNot, leaf(api.FilterApprox, "cn", "a")), api.OK},
		{"and of none", of(api.FilterAnd), api.OK},
		{"or of none", of(api.FilterOr), api.OK},
		{"or of an empty list", api.Filter{Kind: api.FilterOr, List: []api.Filter{}, Subs: api.Subs{Mids: []string{}}}, api.OK},
		{"the zero filter", api.Filter{}, api.OK},
		{"not of none", of(api.FilterNot), api.ErrForm},
		{"not of an empty list", api.Filter{Kind: api.FilterNot, List: []api.Filter{}}, api.ErrForm},
		{"not of two", of(api.FilterNot, present("cn"), present("sn")), api.ErrForm},
		{"not of 64", of(api.FilterNot, times(64, present("cn"))...), api.ErrForm},
		{"not of 65", of(api.FilterNot, times(65, present("cn"))...), api.ErrLong},
		{"and of 64", of(api.FilterAnd, times(64, present("cn"))...), api.OK},
		{"and of 65", of(api.FilterAnd, times(65, present("cn"))...), api.ErrLong},
		{"or of 64", of(api.FilterOr, times(64, present("cn"))...), api.OK},
		{"or of 65", of(api.FilterOr, times(65, present("cn"))...), api.ErrLong},
		{"a value of no bytes", leaf(api.FilterEqual, "cn", ""), api.OK},
		{"a value of any bytes", leaf(api.FilterEqual, "cn", "\x00\xff*()\\ "), api.OK},
		{"a head", parts("cn", "a", ""), api.OK},
		{"a middle", parts("cn", "", "", "a"), api.OK},
		{"a tail", parts("cn", "", "a"), api.OK},
		{"all parts", parts("cn", "a", "d", "b", "c"), api.OK},
		{"no parts", parts("cn", "", ""), api.ErrForm},
		{"no parts, in an empty list", parts("cn", "", "", []string{}...), api.ErrForm},
		{"a middle that is empty", parts("cn", "", "", ""), api.ErrForm},
		{"a middle that is empty, the last one", parts("cn", "a", "b", "m", ""), api.ErrForm},
		{"a middle that is empty, the first one", parts("cn", "a", "b", "", "m"), api.ErrForm},
		{"16 middles", parts("cn", "a", "b", mids[:16]...), api.OK},
		{"17 middles", parts("cn", "a", "b", mids...), api.ErrForm},
		{"a blank as a middle", parts("cn", "", "", " "), api.OK},
		{"a head of 1024 bytes", parts("cn", most, ""), api.OK},
		{"a head of 1025 bytes", parts("cn", long, ""), api.ErrLong},
		{"middles of 1024 bytes", parts("cn", "", "", most, most), api.OK},
		{"a middle of 1025 bytes, the first one", parts("cn", "", "", long, "a"), api.ErrLong},
		{"a middle of 1025 bytes, the last one", parts("cn", "", "", "a", long), api.ErrLong},
		{"a tail of 1024 bytes", parts("cn", "", most), api.OK},
		{"a tail of 1025 bytes", parts("cn", "", long), api.ErrLong},
		{"all parts of 1024 bytes", parts("cn", most, most, slices.Repeat([]string{most}, 16)...), api.OK},
	} {
		if got := Check(c.f); got != c.want {
			t.Errorf("Check of %s: %d", c.what, got)
		}
	}
}

func TestCheckKinds(t *testing.T) {
	for _, kind := range []int{-1, 9, 10, 64, 256, 256 + api.FilterEqual, math.MinInt, math.MaxInt, math.MinInt32, math.MaxInt32, 1 << 32, 1<<32 + api.FilterPresent} {
		for _, f := range []api.Filter{{Kind: kind}, leaf(kind, "cn", ""), leaf(kind, "cn", "a"), of(kind), of(kind, present("cn"))} {
			if got := Check(f); got != api.ErrArg {
				t.Errorf("Check of kind %d: %d", kind, got)
			}
			if got := Check(of(api.FilterOr, present("cn"), f)); got != api.ErrArg {
				t.Errorf("Check of an or with kind %d: %d", kind, got)
			}
		}
	}
	for _, kind := range kinds {
		if got := Check(good(kind)); got != api.OK {
			t.Errorf("Check of kind %d: %d", kind, got)
		}
	}
}

// TestCheckFields holds that each kind has the fields that the chapter says, and none of the others.
func TestCheckFields(t *testing.T) {
	for _, kind := range kinds {
		for what, c := range map[string]struct {
			put func(f *api.Filter)
			has bool
		}{
			"attribute":      {func(f *api.Filter) { f.Attr = "sn" }, slices.Contains(ofAttr, kind)},
			"wrong name":     {func(f *api.Filter) { f.Attr = "1" }, false},
			"value":          {func(f *api.Filter) { f.Value = "b" }, hasValue(kind)},
			"head":           {func(f *api.Filter) { f.Subs.Head = "b" }, kind == api.FilterSubs},
			"middle":         {func(f *api.Filter) { f.Subs.Mids = []string{"b"} }, kind == api.FilterSubs},
			"empty middle":   {func(f *api.Filter) { f.Subs.Mids = []string{""} }, false},
			"no middles":     {func(f *api.Filter) { f.Subs.Mids = []string{} }, true},
			"tail":           {func(f *api.Filter) { f.Subs.Tail = "b" }, kind == api.FilterSubs},
			"one filter":     {func(f *api.Filter) { f.List = []api.Filter{present("sn")} }, !slices.Contains(ofAttr, kind)},
			"a wrong filter": {func(f *api.Filter) { f.List = []api.Filter{{Kind: 9}} }, false},
			"two filters":    {func(f *api.Filter) { f.List = times(2, present("sn")) }, kind == api.FilterAnd || kind == api.FilterOr},
			"no filters":     {func(f *api.Filter) { f.List = []api.Filter{} }, kind != api.FilterNot},
		} {
			f := good(kind)
			c.put(&f)
			want := api.ErrForm
			if c.has {
				want = api.OK
			} else if what == "wrong name" && slices.Contains(ofAttr, kind) {
				want = api.ErrName
			} else if what == "a wrong filter" && !slices.Contains(ofAttr, kind) {
				want = api.ErrArg
			}
			if got := Check(f); got != want {
				t.Errorf("Check of kind %d with %s: %d", kind, what, got)
			}
		}
	}
}

func TestCheckNames(t *testing.T) {
	const letters = "abcdefghijklmnopqrstuvwxyzABCDEFGHIJKLMNOPQRSTUVWXYZ"
	names := map[string]bool{
		"": false, "c": true, "Z": true, "a-": true, "a0": true, "uidNumber": true, "a-1-b2": true, "-a": false, "2.5.4.3": false,
		" cn": false, "cn ": false, "cn;x": false, "cn=": false, "cn*": false, "\u00e4": false, "a\u00e4": false, "k\u212a": false, "\u212a": false,
		strings.Repeat("a", 64): true, strings.Repeat("a", 65): false, "a" + strings.Repeat("-", 63): true, "a" + strings.Repeat("9", 64): false,
		strings.Repeat("a", 1024): false, strings.Repeat("a", 1025): false,
	}
	for i := range 256 {
		c := string([]byte{byte(i)})
		isLetter := strings.Contains(letters, c)
		isBehind := isLetter || strings.Contains("0123456789-", c)
		names[c], names[c+"b"] = isLetter, isLetter
		names["b"+c], names["b"+c+"b"], names["b1-"+c] = isBehind, isBehind, isBehind
	}
	for _, kind := range ofAttr {
		for name, ok := range names {
			f := good(kind)
			f.Attr = name
			want := api.ErrName
			if ok {
				want = api.OK
			}
			if got := Check(f); got != want {
				t.Errorf("Check of kind %d of %q: %d", kind, name, got)
			}
		}
	}
}

func TestCheckValues(t *testing.T) {
	for _, kind := range kinds {
		for n, want := range map[int]api.Errno{0: api.OK, 1: api.OK, 1023: api.OK, 1024: api.OK, 1025: api.ErrLong, 1 << 16: api.ErrLong} {
			f := good(kind)
			f.Value = strings.Repeat("\xff", n)
			if n > 0 && !hasValue(kind) {
				want = api.ErrForm
			}
			if got := Check(f); got != want {
				t.Errorf("Check of kind %d with a value of %d bytes: %d", kind, n, got)
			}
		}
	}
}

// TestCheckOrder holds that of two errors the one that is asked first is told.
func TestCheckOrder(t *testing.T) {
	faults := []struct {
		what string
		err  api.Errno
		put  func(f *api.Filter)
	}{
		{"too deep", api.ErrDeep, func(f *api.Filter) { f.List = append([]api.Filter{under(15, present("cn"))}, f.List...) }},
		{"no kind", api.ErrArg, func(f *api.Filter) { f.Kind = 9 }},
		{"too many filters", api.ErrLong, func(f *api.Filter) { f.List = append(f.List, times(65, api.Filter{Kind: 10})...) }},
		{"a filter that may not be there", api.ErrForm, func(f *api.Filter) { f.List = append(f.List, api.Filter{Kind: 10}) }},
		{"a part that may not be there", api.ErrForm, func(f *api.Filter) { f.Subs.Tail = strings.Repeat("a", 1025) }},
		{"no name", api.ErrName, func(f *api.Filter) { f.Attr = "" }},
		{"a wrong name", api.ErrName, func(f *api.Filter) { f.Attr = "1" }},
		{"a long value", api.ErrLong, func(f *api.Filter) { f.Value = strings.Repeat("a", 1025) }},
	}
	for _, kind := range []int{api.FilterEqual, api.FilterGreater, api.FilterLess, api.FilterApprox} {
		for i, first := range faults {
			for _, second := range faults[i:] {
				f := good(kind)
				first.put(&f)
				second.put(&f)
				if got := Check(f); got != first.err {
					t.Errorf("Check of kind %d with %s and %s: %d", kind, first.what, second.what, got)
				}
			}
		}
	}
	long := strings.Repeat("a", 1025)
	for _, c := range []struct {
		what string
		f    api.Filter
		want api.Errno
	}{
		{"a wrong name, and a long part", parts("1", long, ""), api.ErrName},
		{"no parts, and a wrong name", parts("1", "", ""), api.ErrForm},
		{"a long part, and a middle that is empty", parts("cn", long, "", ""), api.ErrForm},
		{"17 middles that are long", parts("", "", "", slices.Repeat([]string{long}, 17)...), api.ErrForm},
		{"an and with a name, and a wrong filter", api.Filter{Attr: "cn", List: []api.Filter{{Kind: 9}}}, api.ErrForm},
		{"an and with a long value, and a wrong filter", api.Filter{Value: long, List: []api.Filter{{Kind: 9}}}, api.ErrForm},
		{"a not of two wrong filters", of(api.FilterNot, times(2, api.Filter{Kind: 9})...), api.ErrForm},
		{"an and of 65 wrong filters", of(api.FilterAnd, times(65, api.Filter{Kind: 9})...), api.ErrLong},
	} {
		if got := Check(c.f); got != c.want {
			t.Errorf("Check of %s: %d", c.what, got)
		}
	}
}

// TestCheckList holds that of the errors of a list's filters that of the first one that has one is told.
func TestCheckList(t *testing.T) {
	bad := map[api.Errno]api.Filter{
		api.ErrArg:  {Kind: 9},
		api.ErrForm: leaf(api.FilterPresent, "cn", "x"),
		api.ErrName: present("1"),
		api.ErrLong: leaf(api.FilterEqual, "cn", strings.Repeat("a", 1025)),
	}
	for err, f := range bad {
		for other, g := range bad {
			for what, list := range map[string][]api.Filter{
				"ahead":                {f, g},
				"behind good ones":     {present("cn"), of(api.FilterOr), f, present("sn"), g},
				"deeper":               {of(api.FilterNot, of(api.FilterOr, present("cn"), f)), g},
				"ahead of a deeper":    {f, of(api.FilterNot, g)},
				"both deeper":          {of(api.FilterOr, present("cn"), f), of(api.FilterOr, g)},
				"the last one of many": slices.Concat(times(63, present("cn")), []api.Filter{f}),
			} {
				for _, kind := range []int{api.FilterAnd, api.FilterOr} {
					if got := Check(of(kind, list...)); got != err {
						t.Errorf("Check of a list with %d %s of %d: %d", err, what, other, got)
					}
				}
			}
		}
		for levels := range 15 {
			if got := Check(under(levels, f)); got != err {
				t.Errorf("Check of %d under %d levels: %d", err, levels, got)
			}
		}
	}
}

func TestCheckDepth(t *testing.T) {
	for n := range 80 {
		want := api.OK
		if n+1 > 16 {
			want = api.ErrDeep
		}
		for what, f := range map[string]api.Filter{
			"one":                under(n, present("cn")),
			"an and of none":     under(n, of(api.FilterAnd)),
			"twice":              doubled(n, present("cn")),
			"and one that isn't": of(api.FilterOr, present("cn"), under(max(n-1, 0), present("sn"))),
		} {
			if n == 0 && what == "and one that isn't" {
				continue
			}
			if got := Check(f); got != want {
				t.Errorf("Check of %s under %d levels: %d", what, n, got)
			}
		}
	}
	for what, f := range map[string]api.Filter{
		"what is no kind":              under(16, api.Filter{Kind: 9}),
		"a wrong name":                 under(16, present("1")),
		"one that has no list":         {Kind: api.FilterPresent, Attr: "cn", List: []api.Filter{under(15, present("cn"))}},
		"65 of them":                   of(api.FilterAnd, times(65, under(15, present("cn")))...),
		"one behind one that is wrong": of(api.FilterAnd, api.Filter{Kind: 9}, under(15, present("cn"))),
		"one behind 64":                of(api.FilterAnd, slices.Concat(times(64, present("cn")), []api.Filter{under(15, present("cn"))})...),
		"what stands in itself":        loop(1),
		"what stands in itself twice":  loop(2),
	} {
		if got := Check(f); got != api.ErrDeep {
			t.Errorf("Check of %s, too deep: %d", what, got)
		}
	}
}

// TestCheckShared holds that filters that share lists are told as if each had a list of its own.
func TestCheckShared(t *testing.T) {
	f := present("cn")
	for range 15 {
		f = of(api.FilterOr, times(64, f)...)
	}
	if got := Check(f); got != api.OK {
		t.Errorf("Check of many that share lists: %d", got)
	}
	f = of(api.FilterOr, f.List[0].List...)
	f.List = append(slices.Clone(f.List[:63]), present("1"))
	if got := Check(f); got != api.ErrName {
		t.Errorf("Check of a wrong one behind many that share lists: %d", got)
	}
	list := append(times(64, present("cn")), api.Filter{Kind: 9})
	for what, c := range map[string]struct {
		f    api.Filter
		want api.Errno
	}{
		"a part of a list, and all of it":      {of(api.FilterAnd, of(api.FilterAnd, list[60:64]...), of(api.FilterOr, list[60:]...)), api.ErrArg},
		"a list, and another part of it":       {of(api.FilterAnd, of(api.FilterAnd, list[:64]...), of(api.FilterOr, list[1:]...)), api.ErrArg},
		"a list, and too much of it":           {of(api.FilterAnd, of(api.FilterAnd, list[:64]...), of(api.FilterOr, list...)), api.ErrLong},
		"a list of two, and as one of a not":   {of(api.FilterAnd, of(api.FilterAnd, list[:2]...), of(api.FilterNot, list[:2]...)), api.ErrForm},
		"two parts of a list":                  {of(api.FilterAnd, of(api.FilterAnd, list[:60]...), of(api.FilterOr, list[1:64]...)), api.OK},
		"a list that an attribute has as well": {of(api.FilterAnd, of(api.FilterAnd, list[:2]...), api.Filter{Kind: api.FilterPresent, Attr: "cn", List: list[:2]}), api.ErrForm},
	} {
		if got := Check(c.f); got != c.want {
			t.Errorf("Check of %s: %d", what, got)
		}
	}
}

func TestDepth(t *testing.T) {
	if got := Depth(Not(And())); got != 2 {
		t.Errorf("Depth of a not of an and: %d", got)
	}
	for n := range 140 {
		want := min(n+1, 65)
		for what, f := range map[string]api.Filter{
			"one":            under(n, present("cn")),
			"an and of none": under(n, of(api.FilterAnd)),
			"an empty list":  under(n, api.Filter{Kind: api.FilterOr, List: []api.Filter{}}),
			"twice":          doubled(n, present("cn")),
			"no kind":        under(n, api.Filter{Kind: -7, Subs: api.Subs{Mids: []string{"a"}}}),
		} {
			if got := Depth(f); got != want {
				t.Errorf("Depth of %s under %d levels: %d", what, n, got)
			}
			if got := Depth(of(api.FilterOr, f, present("cn"))); got != min(want+1, 65) {
				t.Errorf("Depth of %s under %d levels, the first one: %d", what, n, got)
			}
			if got := Depth(of(api.FilterOr, present("cn"), of(api.FilterNot), f)); got != min(want+1, 65) {
				t.Errorf("Depth of %s under %d levels, the last one: %d", what, n, got)
			}
		}
	}
	for _, kind := range append([]int{-1, 9}, kinds...) {
		if got := Depth(of(kind, present("cn"), of(kind, of(kind)))); got != 3 {
			t.Errorf("Depth of kind %d: %d", kind, got)
		}
		if got := Depth(good(kind)); got != 1 && slices.Contains(ofAttr, kind) {
			t.Errorf("Depth of kind %d alone: %d", kind, got)
		}
	}
	for what, c := range map[string]struct {
		f    api.Filter
		want int
	}{
		"the zero filter":              {api.Filter{}, 1},
		"what stands in itself":        {loop(1), 65},
		"what stands in itself thrice": {loop(3), 65},
		"very many levels":             {under(1<<16, present("cn")), 65},
		"very many filters":            {of(api.FilterAnd, times(1<<20, of(api.FilterNot, present("cn")))...), 3},
	} {
		if got := Depth(c.f); got != c.want {
			t.Errorf("Depth of %s: %d", what, got)
		}
	}
}

// TestDepthShared holds that a list that stands at two levels counts at the deeper one.
func TestDepthShared(t *testing.T) {
	low := under(3, present("cn"))
	for what, c := range map[string]struct {
		f    api.Filter
		want int
	}{
		"nearer the top first": {of(api.FilterAnd, low, under(5, low)), 10},
		"deeper first":         {of(api.FilterAnd, under(5, low), low), 10},
		"both as deep":         {of(api.FilterAnd, under(5, low), under(5, low)), 10},
		"in a list of its own": {of(api.FilterAnd, of(api.FilterAnd, low), of(api.FilterOr, of(api.FilterOr, low))), 7},
	} {
		if got := Depth(c.f); got != c.want {
			t.Errorf("Depth of a list twice, %s: %d", what, got)
		}
	}
	list := []api.Filter{present("cn"), under(4, present("cn"))}
	if got := Depth(of(api.FilterAnd, of(api.FilterOr, list[:1]...), of(api.FilterOr, list...))); got != 7 {
		t.Errorf("Depth of a part of a list, and all of it: %d", got)
	}
	if got := Depth(of(api.FilterAnd, of(api.FilterOr, list...), of(api.FilterOr, list[:1]...))); got != 7 {
		t.Errorf("Depth of a list, and a part of it: %d", got)
	}
}

func TestPutTogether(t *testing.T) {
	lists := [][]api.Filter{
		nil, {}, {present("cn")}, {present("sn"), present("cn")}, {present("cn"), present("cn")},
		{leaf(9, "", ""), of(api.FilterNot), {}, parts("cn", "a", "b", "", "m")}, times(65, leaf(api.FilterEqual, "1", "x")),
		{under(70, present("cn")), loop(2)},
	}
	for i, list := range lists {
		for kind, put := range map[int]func(l ...api.Filter) api.Filter{api.FilterAnd: And, api.FilterOr: Or} {
			if got := put(list...); !Same(got, api.Filter{Kind: kind, List: list}) {
				t.Errorf("kind %d of list %d: %.200q", kind, i, got.Attr)
			}
		}
		for _, f := range list {
			if got := Not(f); !Same(got, api.Filter{Kind: api.FilterNot, List: []api.Filter{f}}) {
				t.Errorf("Not of one of list %d: %.200q", i, got.Attr)
			}
		}
	}
	a, b := leaf(api.FilterEqual, "cn", "a"), parts("SN", "h", "t", "m")
	for what, c := range map[string]struct{ got, want api.Filter }{
		"And":         {And(a, b), api.Filter{Kind: 0, List: []api.Filter{a, b}}},
		"And of none": {And(), api.Filter{Kind: 0}},
		"Or":          {Or(b, a), api.Filter{Kind: 1, List: []api.Filter{b, a}}},
		"Or of none":  {Or(), api.Filter{Kind: 1}},
		"Not":         {Not(b), api.Filter{Kind: 2, List: []api.Filter{b}}},
		"Not of Not":  {Not(Not(a)), api.Filter{Kind: 2, List: []api.Filter{{Kind: 2, List: []api.Filter{a}}}}},
		"all three":   {And(Or(a), Not(And())), api.Filter{List: []api.Filter{{Kind: 1, List: []api.Filter{a}}, {Kind: 2, List: []api.Filter{{}}}}}},
	} {
		if !isFilter(c.got, c.want) {
			t.Errorf("%s: %q", what, c.got.Attr)
		}
	}
}

// TestListsOfTheirOwn holds that what And and Or tell stays, whatever becomes of the list that was handed in.
func TestListsOfTheirOwn(t *testing.T) {
	for what, put := range map[string]func(l ...api.Filter) api.Filter{"And": And, "Or": Or} {
		list := append(make([]api.Filter, 0, 8), present("cn"), present("sn"))
		f := put(list...)
		list[0] = present("o")
		_ = append(list, present("o"))
		if len(f.List) != 2 || f.List[0].Attr != "cn" || f.List[1].Attr != "sn" {
			t.Errorf("%s keeps what it is handed", what)
		}
		f.List[1] = present("ou")
		_ = append(f.List, present("ou"))
		if list[1].Attr != "sn" || list[:3][2].Attr != "o" {
			t.Errorf("what %s tells shares memory with what it is handed", what)
		}
	}
}

func TestAttrs(t *testing.T) {
	for _, c := range []struct {
		what string
		f    api.Filter
		want []string
	}{
		{"the zero filter", api.Filter{}, nil},
		{"and of none", of(api.FilterAnd), nil},
		{"one", present("cn"), []string{"cn"}},
		{"great letters", leaf(api.FilterEqual, "ObjectCLASS", "Top"), []string{"objectclass"}},
		{"all great letters", present("ZYXWVUTSRQPONMLKJIHGFEDCBA"), []string{"zyxwvutsrqponmlkjihgfedcba"}},
		{"no order", of(api.FilterAnd, present("sn"), present("cn"), present("o")), []string{"cn", "o", "sn"}},
		{"an order by small letters", of(api.FilterOr, present("Z"), present("a"), present("B")), []string{"a", "b", "z"}},
		{"an order by bytes", of(api.FilterOr, present("ab"), present("a"), present("a-"), present("a0"), present("A_"), present("\xff"), present("\u00e4")),
			[]string{"a", "a-", "a0", "a_", "ab", "\u00e4", "\xff"}},
		{"twice", of(api.FilterAnd, present("cn"), present("sn"), leaf(api.FilterEqual, "CN", "a"), parts("Cn", "a", "")), []string{"cn", "sn"}},
		{"at each level", api.Filter{Attr: "D", List: []api.Filter{{Attr: "c", List: []api.Filter{{Attr: "B", List: []api.Filter{present("a")}}}}}}, []string{"a", "b", "c", "d"}},
		{"at different levels", of(api.FilterAnd, under(4, present("b")), present("a"), under(2, present("c"))), []string{"a", "b", "c"}},
		{"none that are empty", of(api.FilterAnd, present(""), present("cn"), leaf(api.FilterEqual, "", "x")), []string{"cn"}},
		{"what is no name", of(api.FilterAnd, present(" CN"), present("*"), present("\x00A"), present(strings.Repeat("A", 1<<12))), []string{"\x00a", " cn", "*", strings.Repeat("a", 1<<12)}},
		{"what is no kind", of(-1, leaf(9, "CN", "x"), leaf(math.MaxInt, "SN", "")), []string{"cn", "sn"}},
		{"filters that may not be", of(api.FilterNot, present("1"), leaf(api.FilterPresent, "b", "x"), present("a")), []string{"1", "a", "b"}},
		{"one with a list that it may not have", api.Filter{Kind: api.FilterPresent, Attr: "cn", List: []api.Filter{present("sn")}}, []string{"cn", "sn"}},
		{"no values, and no parts", of(api.FilterAnd, leaf(api.FilterEqual, "cn", "sn"), parts("o", "h", "t", "m")), []string{"cn", "o"}},
		{"letters that are not A to Z", of(api.FilterAnd, present("\u212a"), present("K"), present("\u00c4A")), []string{"k", "\u00c4a", "\u212a"}},
		{"what stands in itself", loop(1), []string{"a0"}},
		{"what stands in itself thrice", loop(3), []string{"a0", "a1", "a2"}},
	} {
		if got := Attrs(c.f); !slices.Equal(got, c.want) {
			t.Errorf("Attrs of %s: %.200q", c.what, got)
		}
	}
	for _, kind := range ofAttr {
		if got := Attrs(good(kind)); !slices.Equal(got, []string{"cn"}) {
			t.Errorf("Attrs of kind %d: %q", kind, got)
		}
	}
}

// TestAttrsDeep holds that attributes are told down to the level 65, and none below it.
func TestAttrsDeep(t *testing.T) {
	for n := range 140 {
		var want []string
		if n+1 <= 65 {
			want = []string{"cn"}
		}
		if got := Attrs(under(n, present("CN"))); !slices.Equal(got, want) {
			t.Errorf("Attrs under %d levels: %q", n, got)
		}
		if got := Attrs(doubled(n, present("CN"))); !slices.Equal(got, want) {
			t.Errorf("Attrs under %d levels that share lists: %q", n, got)
		}
		// What stands too deep may stand nearer to the top as well, ahead of that or behind it.
		low := under(3, present("CN"))
		for _, f := range []api.Filter{of(api.FilterAnd, low, under(n, low)), of(api.FilterAnd, under(n, low), low)} {
			if got := Attrs(f); !slices.Equal(got, []string{"cn"}) {
				t.Errorf("Attrs of what stands at two levels: %q", got)
			}
		}
	}
	if got := Attrs(under(1<<16, present("cn"))); len(got) != 0 {
		t.Errorf("Attrs of very many levels: %q", got)
	}
	f, want := present("x"), []string(nil)
	for i := range 80 {
		f = api.Filter{Attr: "L" + strconv.Itoa(100+i), List: []api.Filter{f}}
	}
	for i := 15; i < 80; i++ {
		want = append(want, "l"+strconv.Itoa(100+i))
	}
	if got := Attrs(f); !slices.Equal(got, want) {
		t.Errorf("Attrs of each of many levels: %q", got)
	}
}

func TestSame(t *testing.T) {
	base := api.Filter{Kind: api.FilterSubs, Attr: "cn", Value: "v", Subs: api.Subs{Head: "h", Mids: []string{"m", "n"}, Tail: "t"}, List: []api.Filter{present("a"), present("b")}}
	with := func(put func(f *api.Filter)) api.Filter {
		f := copied(base)
		put(&f)
		return f
	}
	for _, c := range []struct {
		what string
		f    api.Filter
		want bool
	}{
		{"itself", base, true},
		{"a copy", copied(base), true},
		{"the zero filter", api.Filter{}, false},
		{"another kind", with(func(f *api.Filter) { f.Kind = api.FilterEqual }), false},
		{"no kind", with(func(f *api.Filter) { f.Kind = -1 }), false},
		{"another attribute", with(func(f *api.Filter) { f.Attr = "sn" }), false},
		{"great letters", with(func(f *api.Filter) { f.Attr = "CN" }), false},
		{"no attribute", with(func(f *api.Filter) { f.Attr = "" }), false},
		{"another value", with(func(f *api.Filter) { f.Value = "w" }), false},
		{"a value in great letters", with(func(f *api.Filter) { f.Value = "V" }), false},
		{"a value with a blank", with(func(f *api.Filter) { f.Value = "v " }), false},
		{"another head", with(func(f *api.Filter) { f.Subs.Head = "i" }), false},
		{"no head", with(func(f *api.Filter) { f.Subs.Head = "" }), false},
		{"another tail", with(func(f *api.Filter) { f.Subs.Tail = "u" }), false},
		{"no tail", with(func(f *api.Filter) { f.Subs.Tail = "" }), false},
		{"another first middle", with(func(f *api.Filter) { f.Subs.Mids[0] = "M" }), false},
		{"another last middle", with(func(f *api.Filter) { f.Subs.Mids[1] = "o" }), false},
		{"middles in another order", with(func(f *api.Filter) { f.Subs.Mids = []string{"n", "m"} }), false},
		{"a middle less", with(func(f *api.Filter) { f.Subs.Mids = f.Subs.Mids[:1] }), false},
		{"a middle more", with(func(f *api.Filter) { f.Subs.Mids = append(f.Subs.Mids, "o") }), false},
		{"an empty middle more", with(func(f *api.Filter) { f.Subs.Mids = append(f.Subs.Mids, "") }), false},
		{"no middles", with(func(f *api.Filter) { f.Subs.Mids = nil }), false},
		{"middles as one", with(func(f *api.Filter) { f.Subs.Mids = []string{"mn"} }), false},
		{"a filter less", with(func(f *api.Filter) { f.List = f.List[:1] }), false},
		{"a filter more", with(func(f *api.Filter) { f.List = append(f.List, present("c")) }), false},
		{"an empty filter more", with(func(f *api.Filter) { f.List = append(f.List, api.Filter{}) }), false},
		{"no filters", with(func(f *api.Filter) { f.List = nil }), false},
		{"another first filter", with(func(f *api.Filter) { f.List[0] = present("c") }), false},
		{"another last filter", with(func(f *api.Filter) { f.List[1] = present("c") }), false},
		{"filters in another order", with(func(f *api.Filter) { f.List = []api.Filter{present("b"), present("a")} }), false},
		{"a filter in a filter", with(func(f *api.Filter) { f.List[1] = of(api.FilterPresent, present("b")) }), false},
		{"a filter with a filter", with(func(f *api.Filter) { f.List[1].List = []api.Filter{present("b")} }), false},
	} {
		for levels := range 5 {
			if got := Same(under(levels, base), under(levels, c.f)); got != c.want {
				t.Errorf("Same of %s, under %d levels: %t", c.what, levels, got)
			}
			if got := Same(under(levels, c.f), under(levels, base)); got != c.want {
				t.Errorf("Same of %s, under %d levels, the other way about: %t", c.what, levels, got)
			}
		}
	}
	empty := api.Filter{List: []api.Filter{}, Subs: api.Subs{Mids: []string{}}}
	if !Same(api.Filter{}, api.Filter{}) || !Same(empty, api.Filter{}) || !Same(api.Filter{}, empty) || !Same(of(0, empty), of(0, api.Filter{})) {
		t.Error("Same of lists that are empty")
	}
	if Same(of(api.FilterAnd, base, base), of(api.FilterOr, base, base)) || Same(base, of(api.FilterAnd, base)) || Same(base, of(api.FilterNot, base)) {
		t.Error("Same of other kinds of one filter")
	}
}

// TestSameDeep holds which differences count at the level 65, and that none does below it.
func TestSameDeep(t *testing.T) {
	base := of(api.FilterAnd, present("a"), present("b"))
	for what, c := range map[string]struct {
		f    api.Filter
		deep int // how deep below f the difference is
	}{
		"another kind":               {of(api.FilterOr, present("a"), present("b")), 0},
		"an attribute":               {api.Filter{Attr: "cn", List: base.List}, 0},
		"a value":                    {api.Filter{Value: "v", List: base.List}, 0},
		"a middle":                   {api.Filter{Subs: api.Subs{Mids: []string{""}}, List: base.List}, 0},
		"a filter less":              {of(api.FilterAnd, present("a")), 0},
		"a filter more":              {of(api.FilterAnd, present("a"), present("b"), present("c")), 0},
		"no filters":                 {of(api.FilterAnd), 0},
		"another first filter":       {of(api.FilterAnd, present("A"), present("b")), 1},
		"another last filter":        {of(api.FilterAnd, present("a"), present("c")), 1},
		"filters in another order":   {of(api.FilterAnd, present("b"), present("a")), 1},
		"a filter with one below it": {of(api.FilterAnd, present("a"), api.Filter{Kind: api.FilterPresent, Attr: "b", List: []api.Filter{{}}}), 1},
	} {
		for n := range 140 {
			want := n+1+c.deep > 65
			if got := Same(under(n, base), under(n, c.f)); got != want {
				t.Errorf("Same of %s under %d levels: %t", what, n, got)
			}
			if got := Same(doubled(n, c.f), doubled(n, base)); got != want {
				t.Errorf("Same of %s under %d levels that share lists: %t", what, n, got)
			}
			if !Same(doubled(n, c.f), doubled(n, c.f)) {
				t.Errorf("Same of %s under %d levels, built twice", what, n)
			}
		}
	}
	if !Same(under(1<<16, present("a")), under(1<<16+1, present("b"))) {
		t.Error("Same of very many levels")
	}
}

// TestSameShared holds that a difference that stands at two levels is told if it counts at one of them.
func TestSameShared(t *testing.T) {
	a, b := under(3, present("a")), under(3, present("b"))
	for n := range 100 {
		for _, same := range []bool{true, false} {
			y := b
			if same {
				y = a
			}
			if Same(of(api.FilterAnd, a, under(n, a)), of(api.FilterAnd, y, under(n, y))) != same {
				t.Errorf("Same of what stands at the top, and below %d levels: not %t", n, same)
			}
			if Same(of(api.FilterAnd, under(n, a), a), of(api.FilterAnd, under(n, y), y)) != same {
				t.Errorf("Same of what stands below %d levels, and at the top: not %t", n, same)
			}
		}
	}
	list := []api.Filter{present("a"), present("b"), present("c"), present("a"), present("x"), present("c")}
	one := of(api.FilterAnd, of(api.FilterOr, list[:1]...), of(api.FilterOr, list[:3]...))
	two := of(api.FilterAnd, of(api.FilterOr, list[3:4]...), of(api.FilterOr, list[3:]...))
	if Same(one, two) || Same(two, one) {
		t.Error("Same of parts of lists, and of all of them")
	}
	// The same list held against one that is the same, and against one that is not.
	x, y, z := of(api.FilterOr, present("a")), of(api.FilterOr, present("a")), of(api.FilterOr, present("b"))
	if !Same(of(api.FilterAnd, x, x), of(api.FilterAnd, y, x)) || Same(of(api.FilterAnd, x, x), of(api.FilterAnd, y, z)) || Same(of(api.FilterAnd, y, z), of(api.FilterAnd, x, x)) {
		t.Error("Same of a list against two")
	}
}

// TestSameLoops holds that what stands in itself is gone over to the level 65.
func TestSameLoops(t *testing.T) {
	for n := 1; n < 5; n++ {
		if !Same(loop(n), loop(n)) {
			t.Errorf("Same of what stands %d times in itself", n)
		}
		if Same(loop(n), loop(n+1)) || Same(loop(n+1), loop(n)) {
			t.Errorf("Same of what stands %d times in itself, and once more", n)
		}
	}
	one := loop(1)
	for n := range 140 {
		f := of(api.FilterAnd)
		for range n {
			f = api.Filter{Kind: api.FilterOr, Attr: "A0", List: []api.Filter{f}}
		}
		if want := n+1 > 65; Same(one, f) != want || Same(f, one) != want {
			t.Errorf("Same of what stands in itself, and of %d levels: not %t", n, want)
		}
	}
	// A loop of two lists, and one of three, are the same as deep as is looked.
	ring := func(n int) api.Filter {
		lists := make([][]api.Filter, n)
		for i := range lists {
			lists[i] = make([]api.Filter, 2)
		}
		for i, list := range lists {
			list[0].List, list[1].List = lists[(i+1)%n], lists[(i+1)%n]
		}
		return of(api.FilterAnd, lists[0]...)
	}
	if !Same(ring(2), ring(3)) || !Same(ring(7), ring(1)) {
		t.Error("Same of loops")
	}
	spoilt := ring(3)
	spoilt.List[1].List[0].List[1].Value = "x"
	if Same(ring(2), spoilt) || Same(spoilt, ring(2)) || !Same(spoilt, spoilt) {
		t.Error("Same of a loop with another value")
	}
}

// slowDepth does what the chapter says of Depth, in the plainest way, of few levels.
func slowDepth(f api.Filter) int {
	below := 0
	for _, g := range f.List {
		below = max(below, slowDepth(g))
	}
	return 1 + below
}

// slowOwn does what the chapter says of Check, but of List and Depth, in the plainest way.
func slowOwn(f api.Filter) api.Errno {
	ofList := f.Kind == api.FilterAnd || f.Kind == api.FilterOr || f.Kind == api.FilterNot
	isNone := f.Subs.Head == "" && len(f.Subs.Mids) == 0 && f.Subs.Tail == ""
	switch {
	case !slices.Contains(kinds, f.Kind):
		return api.ErrArg
	case len(f.List) > 64:
		return api.ErrLong
	case !ofList && len(f.List) > 0, f.Kind == api.FilterNot && len(f.List) != 1,
		ofList && f.Attr != "", !hasValue(f.Kind) && f.Value != "",
		f.Kind != api.FilterSubs && !isNone,
		f.Kind == api.FilterSubs && (isNone || len(f.Subs.Mids) > 16 || slices.Contains(f.Subs.Mids, "")):
		return api.ErrForm
	case !ofList && !slices.Contains([]string{"cn", "SN"}, f.Attr):
		return api.ErrName
	case len(f.Value) > 1024, len(f.Subs.Head) > 1024, len(f.Subs.Tail) > 1024:
		return api.ErrLong
	}
	return api.OK
}

// slowCheck does what the chapter says of Check, in the plainest way.
func slowCheck(f api.Filter) api.Errno {
	err := slowOwn(f)
	if slowDepth(f) > 16 {
		err = api.ErrDeep
	}
	for _, g := range f.List {
		if err == api.OK {
			err = slowCheck(g)
		}
	}
	return err
}

// slowAttrs does what the chapter says of Attrs, in the plainest way, of few levels.
func slowAttrs(f api.Filter) []string {
	var names []string
	if f.Attr != "" {
		names = append(names, strings.ToLower(f.Attr))
	}
	for _, g := range f.List {
		names = append(names, slowAttrs(g)...)
	}
	slices.Sort(names)
	return slices.Compact(names)
}

// pool tells filters whose lists have up to two of list.
func pool(list []api.Filter) []api.Filter {
	lists := [][]api.Filter{nil}
	for _, a := range list {
		lists = append(lists, []api.Filter{a})
		for _, b := range list {
			lists = append(lists, []api.Filter{a, b})
		}
	}
	var out []api.Filter
	for _, l := range lists {
		for _, kind := range []int{api.FilterAnd, api.FilterNot, api.FilterEqual, api.FilterPresent, api.FilterSubs, 9} {
			for _, attr := range []string{"", "SN"} {
				out = append(out, api.Filter{Kind: kind, Attr: attr, List: l})
			}
		}
	}
	return out
}

// some are filters without filters, of which most may not be.
var some = []api.Filter{
	{}, of(api.FilterNot), present("cn"), present("SN"), present("1"), present(""), leaf(api.FilterEqual, "cn", "a"),
	leaf(api.FilterLess, "SN", strings.Repeat("a", 1025)), leaf(api.FilterAnd, "cn", ""), leaf(api.FilterPresent, "cn", "a"),
	parts("cn", "a", ""), parts("cn", "", ""), parts("x", "", "", ""), parts("SN", "", "", "m"), leaf(9, "cn", ""),
}

func TestAllOfPool(t *testing.T) {
	first := pool(some)
	few := []api.Filter{first[0], first[5], first[14], first[len(first)-9]}
	for _, f := range slices.Concat(some, first, pool(few), pool(pool(few[:2]))) {
		if got := Depth(f); got != slowDepth(f) {
			t.Fatalf("Depth of %q: %d", f.Attr, got)
		}
		if got, want := Check(f), slowCheck(f); got != want {
			t.Fatalf("Check of %v: %d, not %d", f, got, want)
		}
		if got, want := Attrs(f), slowAttrs(f); !slices.Equal(got, want) {
			t.Fatalf("Attrs of %v: %q", f, got)
		}
	}
	all := slices.Concat(some, pool(some[:4]), pool(few[:2]))
	for _, a := range all {
		for _, b := range all {
			if got, want := Same(a, copied(b)), isFilter(a, b); got != want {
				t.Fatalf("Same of %v, %v: %t", a, b, got)
			}
		}
	}
}

// TestStays holds that no call changes what it is handed, not even behind its lists.
func TestStays(t *testing.T) {
	list := append(make([]api.Filter, 0, 8), parts("SN", "H", "T", "b", "a"), of(api.FilterOr, present("CN"), leaf(9, "O", "x")), of(api.FilterNot, present("B")))
	f := api.Filter{Kind: api.FilterAnd, List: list}
	was := copied(f)
	for range 3 {
		Check(f)
		Depth(f)
		Attrs(f)
		Same(f, was)
		And(list...)
		Or(list...)
		Not(f)
		if !isFilter(f, was) || !isFilter(list[:4][3], api.Filter{}) {
			t.Fatal("what is handed in was changed")
		}
	}
	got := Attrs(f)
	got[0] = "spoilt"
	_ = append(got, "spoilt")
	if again := Attrs(f); !slices.Equal(again, []string{"b", "cn", "o", "sn"}) {
		t.Errorf("Attrs again: %q", again)
	}
}

// TestMany goes over many filters: of a walk through all of them for each one it would wait long.
func TestMany(t *testing.T) {
	var list []api.Filter
	for i := range 1 << 17 {
		list = append(list, of(api.FilterNot, present("T"+strconv.Itoa(i))))
	}
	f := And(list...)
	if got := Check(f); got != api.ErrLong {
		t.Errorf("Check of many: %d", got)
	}
	if got := Attrs(f); len(got) != len(list) {
		t.Errorf("Attrs of many: %d", len(got))
	}
	if !Same(f, copied(f)) || Same(f, And(list[1:]...)) {
		t.Error("Same of many")
	}
	whole := make([]api.Filter, 1<<10)
	for i := range whole {
		whole[i] = api.Filter{Attr: "A", List: whole}
	}
	if got := Depth(whole[0]); got != 65 {
		t.Errorf("Depth of many that have all: %d", got)
	}
	if got := Attrs(whole[0]); !slices.Equal(got, []string{"a"}) {
		t.Errorf("Attrs of many that have all: %q", got)
	}
	if !Same(whole[0], whole[1]) {
		t.Error("Same of many that have all")
	}
}

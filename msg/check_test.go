package msg

import (
	"math"
	"slices"
	"strconv"
	"strings"
	"testing"

	"bothy/api"
)

// fault is a message that may not be, and what Check tells of it.
type fault struct {
	what string
	m    api.Msg
	want api.Errno
}

// deep tells a filter of n levels.
func deep(n int) api.Filter {
	f := present("a")
	for range n - 1 {
		f = api.Filter{Kind: api.FilterNot, List: []api.Filter{f}}
	}
	return f
}

// within tells a filter that stands in itself.
func within() api.Filter {
	list := make([]api.Filter, 1)
	list[0] = api.Filter{Kind: api.FilterNot, List: list}
	return list[0]
}

// wrong tells messages with one thing, or a few, wrong with them.
func wrong() []fault {
	long := most + "t"
	search := func(f api.Filter) api.Msg { return api.Msg{Kind: api.MsgSearch, Filter: f} }
	controls := func(l ...api.Control) api.Msg { return api.Msg{Kind: api.MsgUnbind, Controls: l} }
	many := slices.Repeat([]api.Filter{{Kind: api.FilterEqual, Attr: "a", Value: most[:1024]}}, 64)
	values := slices.Repeat([]string{""}, 1025)
	return []fault{
		{"a filter of no kind", search(api.Filter{Kind: 9}), api.ErrArg},
		{"a filter of a kind below 0", search(api.Filter{Kind: -1}), api.ErrArg},
		{"a filter without a name", search(api.Filter{Kind: api.FilterPresent}), api.ErrName},
		{"a filter with a field too many", search(api.Filter{Kind: api.FilterAnd, Attr: "a"}), api.ErrForm},
		{"a filter of a long value", search(api.Filter{Kind: api.FilterEqual, Attr: "a", Value: most[:1025]}), api.ErrLong},
		{"a filter of 17 levels", search(deep(17)), api.ErrDeep},
		{"a filter that is too deep by far", search(deep(5000)), api.ErrDeep},
		{"a filter within itself", search(within()), api.ErrDeep},
		{"a filter of 65", search(api.Filter{Kind: api.FilterOr, List: slices.Repeat([]api.Filter{present("a")}, 65)}), api.ErrLong},
		{"a filter that is too long as bytes", search(api.Filter{Kind: api.FilterOr, List: many}), api.ErrLong},
		{"1025 attributes that are asked for", api.Msg{Kind: api.MsgSearch, Attrs: values}, api.ErrLong},
		{"1025 attributes", api.Msg{Kind: api.MsgAdd, Entry: api.Entry{Attrs: make([]api.Attr, 1025)}}, api.ErrLong},
		{"1025 attributes of an entry that is told", api.Msg{Kind: api.MsgEntry, Entry: api.Entry{Attrs: make([]api.Attr, 1025)}}, api.ErrLong},
		{"1025 values", api.Msg{Kind: api.MsgAdd, Entry: api.Entry{Attrs: []api.Attr{attr("a"), attr("a", values...)}}}, api.ErrLong},
		{"1025 mods", api.Msg{Kind: api.MsgModify, Mods: make([]api.Mod, 1025)}, api.ErrLong},
		{"1025 values of a mod", api.Msg{Kind: api.MsgModify, Mods: []api.Mod{{}, {Attr: attr("a", values...)}}}, api.ErrLong},
		{"17 controls", controls(slices.Repeat([]api.Control{{OID: "1"}}, 17)...), api.ErrLong},
		{"17 controls, none of which may be", controls(make([]api.Control, 17)...), api.ErrLong},
		{"a control without a name", controls(api.Control{}), api.ErrName},
		{"a control with letters as its name", controls(api.Control{OID: "1"}, api.Control{OID: "cn"}), api.ErrName},
		{"a control with a name of 65 bytes", controls(api.Control{OID: strings.Repeat("1", 65)}), api.ErrName},
		{"a control with a name of 4096 bytes", controls(api.Control{OID: strings.Repeat("1", 4096)}), api.ErrName},
		{"a control with a name of 4097 bytes", controls(api.Control{OID: strings.Repeat("1", 4097)}), api.ErrLong},
		{"a control of 1025 bytes", controls(api.Control{OID: "1", Value: most[:1025]}), api.ErrLong},
		{"a control of 1025 bytes without a name", controls(api.Control{Value: most[:1025]}), api.ErrName},
		{"a control of 1025 bytes ahead of one without a name", controls(api.Control{OID: "1", Value: most[:1025]}, api.Control{}), api.ErrLong},
		{"a control of 1025 bytes behind one without a name", controls(api.Control{}, api.Control{OID: "1", Value: most[:1025]}), api.ErrName},
		{"a control of 4097 bytes behind one without a name", controls(api.Control{}, api.Control{OID: "1", Value: long}), api.ErrLong},
		{"a long name", api.Msg{Kind: api.MsgDelete, DN: long}, api.ErrLong},
		{"a name that is longer by far", api.Msg{Kind: api.MsgDelete, DN: strings.Repeat(most, 1<<10)}, api.ErrLong},
		{"a name of letters of two bytes", api.Msg{Kind: api.MsgDelete, DN: strings.Repeat("\u00e4", 2049)}, api.ErrLong},
		{"a move that is none", api.Msg{Kind: api.MsgRename, Above: "a"}, api.ErrForm},
		{"a name of an unbind", api.Msg{Kind: api.MsgUnbind, DN: "x"}, api.ErrForm},
		{"a name of an add beside its entry", api.Msg{Kind: api.MsgAdd, DN: "x", Entry: api.Entry{DN: "x"}}, api.ErrForm},
		{"an op of an unbind that may be", api.Msg{Kind: api.MsgUnbind, Mods: []api.Mod{{Op: 2}}}, api.ErrForm},
		{"an op of an unbind that may not be", api.Msg{Kind: api.MsgUnbind, Mods: []api.Mod{{Op: 3}}}, api.ErrRange},
		{"a filter of an unbind that may be", api.Msg{Kind: api.MsgUnbind, Filter: present("a")}, api.ErrForm},
		{"a filter of an unbind that may not be", api.Msg{Kind: api.MsgUnbind, Filter: api.Filter{Kind: 9}}, api.ErrForm},
		{"a filter of an unbind that is too deep", api.Msg{Kind: api.MsgUnbind, Filter: deep(17)}, api.ErrForm},
		{"a filter of an unbind within itself", api.Msg{Kind: api.MsgUnbind, Filter: within()}, api.ErrForm},
		{"a filter of an unbind with a text of 1025 bytes", api.Msg{Kind: api.MsgUnbind, Filter: present(most[:1025])}, api.ErrForm},
	}
}

func TestCheckWrong(t *testing.T) {
	for _, c := range wrong() {
		if err := Check(c.m); err != c.want {
			t.Errorf("Check of %s: %d", c.what, err)
		}
	}
}

func TestCheckKinds(t *testing.T) {
	list := []int{math.MinInt, math.MinInt32, math.MaxInt32, math.MaxInt, 256, 256 + 2, 1<<16 + 2, 1<<32 + 2}
	for kind := -300; kind <= 300; kind++ {
		list = append(list, kind)
	}
	for _, kind := range list {
		want := api.ErrArg
		if slices.Contains(kinds, kind) {
			want = api.OK
		}
		if err := Check(api.Msg{ID: 1, Kind: kind}); err != want {
			t.Errorf("Check of kind %d: %d", kind, err)
		}
		if s, err := Put(api.Msg{ID: 1, Kind: kind}); err != want || s == "" != (want != api.OK) {
			t.Errorf("Put of kind %d: %q, %d", kind, s, err)
		}
	}
}

// TestCheckRanges goes over the edges of each number, of each kind, those that have no such number as well.
func TestCheckRanges(t *testing.T) {
	numbers := map[string]struct {
		of   []int
		most int
		put  func(*api.Msg, int)
	}{
		"ID":     {kinds, api.MaxNum, func(m *api.Msg, n int) { m.ID = n }},
		"Limit":  {[]int{3}, api.MaxNum, func(m *api.Msg, n int) { m.Limit = n }},
		"Target": {[]int{16}, api.MaxNum, func(m *api.Msg, n int) { m.Target = n }},
		"Code":   {resultKinds, api.MaxNum, func(m *api.Msg, n int) { m.Result.Code = n }},
		"Scope":  {[]int{3}, 2, func(m *api.Msg, n int) { m.Scope = n }},
		"Op":     {[]int{6}, 2, func(m *api.Msg, n int) { m.Mods = []api.Mod{{}, {Op: n}, {}} }},
	}
	for what, c := range numbers {
		for _, kind := range kinds {
			for _, n := range []int{math.MinInt, math.MinInt32, -256, -2, -1, 0, 1, 2, 3, 4, 255, 256, math.MaxInt32 - 1, math.MaxInt32, math.MaxInt32 + 1, 1 << 32, 1<<32 + 1, math.MaxInt} {
				m := api.Msg{Kind: kind}
				c.put(&m, n)
				want := api.OK
				switch {
				case n < 0 || n > c.most:
					want = api.ErrRange
				case !slices.Contains(c.of, kind) && (n != 0 || what == "Op"):
					want = api.ErrForm
				}
				if err := Check(m); err != want {
					t.Errorf("Check of kind %d with %s %d: %d, not %d", kind, what, n, err, want)
				}
			}
		}
	}
}

// field is a field that a kind of messages has, or has not.
type field struct {
	what string
	of   []int
	put  func(*api.Msg)
}

// fields tells what puts something that may be into each field.
func fields() []field {
	return []field{
		{"DN", []int{0, 3, 6, 10, 12, 14}, func(m *api.Msg) { m.DN = "x" }},
		{"Password", []int{0}, func(m *api.Msg) { m.Password = "x" }},
		{"Scope", []int{3}, func(m *api.Msg) { m.Scope = 1 }},
		{"Limit", []int{3}, func(m *api.Msg) { m.Limit = 1 }},
		{"Types", []int{3}, func(m *api.Msg) { m.Types = true }},
		{"Filter", []int{3}, func(m *api.Msg) { m.Filter = present("a") }},
		{"Filter's Kind", []int{3}, func(m *api.Msg) { m.Filter.Kind = api.FilterOr }},
		{"Filter's List", []int{3}, func(m *api.Msg) { m.Filter.List = make([]api.Filter, 1) }},
		{"Attrs", []int{3}, func(m *api.Msg) { m.Attrs = []string{""} }},
		{"Entry's DN", []int{4, 8}, func(m *api.Msg) { m.Entry.DN = "x" }},
		{"Entry's Attrs", []int{4, 8}, func(m *api.Msg) { m.Entry.Attrs = make([]api.Attr, 1) }},
		{"Mods", []int{6}, func(m *api.Msg) { m.Mods = make([]api.Mod, 1) }},
		{"RDN", []int{12}, func(m *api.Msg) { m.RDN = "x" }},
		{"DropOld", []int{12}, func(m *api.Msg) { m.DropOld = true }},
		{"Above", nil, func(m *api.Msg) { m.Above = "x" }},
		{"Move", []int{12}, func(m *api.Msg) { m.Move = true }},
		{"Move and Above", []int{12}, func(m *api.Msg) { m.Move, m.Above = true, "x" }},
		{"Attr", []int{14}, func(m *api.Msg) { m.Attr = "x" }},
		{"Value", []int{14}, func(m *api.Msg) { m.Value = "x" }},
		{"Target", []int{16}, func(m *api.Msg) { m.Target = 1 }},
		{"Code", resultKinds, func(m *api.Msg) { m.Result.Code = 1 }},
		{"Result's DN", resultKinds, func(m *api.Msg) { m.Result.DN = "x" }},
		{"Text", resultKinds, func(m *api.Msg) { m.Result.Text = "x" }},
		{"Controls", kinds, func(m *api.Msg) { m.Controls = []api.Control{{OID: "1"}} }},
		{"ID", kinds, func(m *api.Msg) { m.ID = 1 }},
		{"empty lists", kinds, func(m *api.Msg) {
			m.Attrs, m.Mods, m.Controls, m.Entry.Attrs = []string{}, []api.Mod{}, []api.Control{}, []api.Attr{}
			m.Filter.List, m.Filter.Subs.Mids = []api.Filter{}, []string{}
		}},
	}
}

func TestCheckFields(t *testing.T) {
	for _, f := range fields() {
		for _, kind := range kinds {
			m := api.Msg{Kind: kind}
			f.put(&m)
			want := api.ErrForm
			if slices.Contains(f.of, kind) {
				want = api.OK
			}
			if f.what == "Filter's List" && kind == api.MsgSearch {
				want = api.OK // An and of an empty and.
			}
			if err := Check(m); err != want {
				t.Errorf("Check of kind %d with %s: %d, not %d", kind, f.what, err, want)
			}
			s, err := Put(m)
			if err != want || s == "" != (want != api.OK) {
				t.Errorf("Put of kind %d with %s: %q, %d", kind, f.what, s, err)
			}
			if want != api.OK {
				continue
			}
			if n, err := Read(s); err != api.OK || !Same(n, m) {
				t.Errorf("Read of kind %d with %s: %v, %d", kind, f.what, n, err)
			}
		}
	}
}

// TestCheckTexts goes over the edges of each text, of each kind, those that have no such text as well.
func TestCheckTexts(t *testing.T) {
	texts := map[string]struct {
		of  []int
		put func(*api.Msg, string)
	}{
		"DN":            {[]int{0, 3, 6, 10, 12, 14}, func(m *api.Msg, s string) { m.DN = s }},
		"Password":      {[]int{0}, func(m *api.Msg, s string) { m.Password = s }},
		"Attrs":         {[]int{3}, func(m *api.Msg, s string) { m.Attrs = []string{"a", s, "b"} }},
		"Entry's DN":    {[]int{4, 8}, func(m *api.Msg, s string) { m.Entry.DN = s }},
		"a type":        {[]int{4, 8}, func(m *api.Msg, s string) { m.Entry.Attrs = []api.Attr{attr("a"), attr(s), attr("b")} }},
		"a value":       {[]int{4, 8}, func(m *api.Msg, s string) { m.Entry.Attrs = []api.Attr{attr("a"), attr("c", "v", s, "w"), attr("b")} }},
		"a mod's type":  {[]int{6}, func(m *api.Msg, s string) { m.Mods = []api.Mod{{}, {Attr: attr(s)}, {}} }},
		"a mod's value": {[]int{6}, func(m *api.Msg, s string) { m.Mods = []api.Mod{{}, {Attr: attr("c", "v", s, "w")}, {}} }},
		"RDN":           {[]int{12}, func(m *api.Msg, s string) { m.RDN = s }},
		"Above":         {[]int{12}, func(m *api.Msg, s string) { m.Move, m.Above = true, s }},
		"Attr":          {[]int{14}, func(m *api.Msg, s string) { m.Attr = s }},
		"Value":         {[]int{14}, func(m *api.Msg, s string) { m.Value = s }},
		"Result's DN":   {resultKinds, func(m *api.Msg, s string) { m.Result.DN = s }},
		"Text":          {resultKinds, func(m *api.Msg, s string) { m.Result.Text = s }},
	}
	for what, c := range texts {
		for _, kind := range kinds {
			has := slices.Contains(c.of, kind)
			for n := 4094; n <= 4098; n++ {
				m := api.Msg{Kind: kind}
				c.put(&m, strings.Repeat("x", n))
				want := api.OK
				switch {
				case n > 4096:
					want = api.ErrLong
				case !has:
					want = api.ErrForm
				}
				if err := Check(m); err != want {
					t.Errorf("Check of kind %d with %s of %d bytes: %d, not %d", kind, what, n, err, want)
				}
				if want != api.OK {
					continue
				}
				if s, err := Put(m); err != api.OK || s != coded(m) {
					t.Errorf("Put of kind %d with %s of %d bytes: %d bytes, %d", kind, what, n, len(s), err)
				}
				if r, err := Read(coded(m)); err != api.OK || !Same(r, m) {
					t.Errorf("Read of kind %d with %s of %d bytes: %d", kind, what, n, err)
				}
			}
		}
	}
}

// TestCheckFilterTexts goes over texts of a filter that its message has not, wherever they stand in it.
func TestCheckFilterTexts(t *testing.T) {
	for _, n := range []int{4096, 4097} {
		s := strings.Repeat("x", n)
		want := api.ErrForm
		if n > 4096 {
			want = api.ErrLong
		}
		list := make([]api.Filter, 2)
		list[0] = api.Filter{Kind: api.FilterNot, List: list}
		list[1] = present(s)
		for _, f := range []api.Filter{
			present(s),
			{Value: s},
			{Subs: api.Subs{Head: s}},
			{Subs: api.Subs{Tail: s}},
			{Subs: api.Subs{Mids: []string{"a", s}}},
			{Kind: api.FilterAnd, List: []api.Filter{present("a"), {Kind: api.FilterNot, List: []api.Filter{present("a"), present(s)}}, present("b")}},
			{Kind: 9, List: []api.Filter{{Kind: -1, Value: s}}},
			list[0],
		} {
			for _, kind := range kinds {
				if kind == api.MsgSearch {
					continue
				}
				if err := Check(api.Msg{Kind: kind, Filter: f}); err != want {
					t.Errorf("Check of kind %d with a filter with a text of %d bytes: %d", kind, n, err)
				}
			}
		}
	}
	// Levels of one list: each one is gone over once.
	f := present("a")
	for range 1000 {
		f = api.Filter{Kind: api.FilterAnd, List: slices.Repeat([]api.Filter{f}, 64)}
	}
	if err := Check(api.Msg{Kind: api.MsgUnbind, Filter: f}); err != api.ErrForm {
		t.Errorf("Check of an unbind with lists that are shared: %d", err)
	}
}

// TestCheckLists goes over the edges of each list, of each kind, those that have no such list as well.
func TestCheckLists(t *testing.T) {
	lists := map[string]struct {
		of   []int
		most int
		put  func(*api.Msg, int)
	}{
		"Attrs":        {[]int{3}, 1024, func(m *api.Msg, n int) { m.Attrs = make([]string, n) }},
		"attributes":   {[]int{4, 8}, 1024, func(m *api.Msg, n int) { m.Entry.Attrs = make([]api.Attr, n) }},
		"values":       {[]int{4, 8}, 1024, func(m *api.Msg, n int) { m.Entry.Attrs = []api.Attr{{}, attr("a", make([]string, n)...)} }},
		"Mods":         {[]int{6}, 1024, func(m *api.Msg, n int) { m.Mods = make([]api.Mod, n) }},
		"mod's values": {[]int{6}, 1024, func(m *api.Msg, n int) { m.Mods = []api.Mod{{}, {Attr: attr("a", make([]string, n)...)}} }},
		"Controls":     {kinds, 16, func(m *api.Msg, n int) { m.Controls = slices.Repeat([]api.Control{{OID: "1"}}, n) }},
	}
	for what, c := range lists {
		for _, kind := range kinds {
			for _, n := range []int{c.most - 1, c.most, c.most + 1, c.most + 2, 5000} {
				m := api.Msg{Kind: kind}
				c.put(&m, n)
				want := api.OK
				switch {
				case n > c.most:
					want = api.ErrLong
				case !slices.Contains(c.of, kind):
					want = api.ErrForm
				}
				if err := Check(m); err != want {
					t.Errorf("Check of kind %d with %d %s: %d, not %d", kind, n, what, err, want)
				}
			}
		}
	}
}

// TestCheckOrder holds that of several errors the first one is told: each rank's faults are all told ahead of those behind.
func TestCheckOrder(t *testing.T) {
	type spoil struct {
		rank int
		want api.Errno
		put  func(*api.Msg)
	}
	long := most + "t"
	spoils := []spoil{
		{1, api.ErrRange, func(m *api.Msg) { m.ID = -1 }},
		{1, api.ErrRange, func(m *api.Msg) { m.Limit = -1 }},
		{1, api.ErrRange, func(m *api.Msg) { m.Target = -1 }},
		{1, api.ErrRange, func(m *api.Msg) { m.Result.Code = -1 }},
		{1, api.ErrRange, func(m *api.Msg) { m.Scope = 3 }},
		{1, api.ErrRange, func(m *api.Msg) { m.Mods = append(make([]api.Mod, 2000), api.Mod{Op: 3}) }},
		{2, api.ErrName, func(m *api.Msg) { m.Filter = present("") }},
		{3, api.ErrLong, func(m *api.Msg) { m.Attrs = make([]string, 1025) }},
		{3, api.ErrLong, func(m *api.Msg) { m.Entry.Attrs = []api.Attr{attr(long)} }},
		{3, api.ErrLong, func(m *api.Msg) { m.Controls = make([]api.Control, 17) }},
		{3, api.ErrLong, func(m *api.Msg) { m.Value = long }},
		{4, api.ErrName, func(m *api.Msg) { m.Controls = []api.Control{{OID: "x"}} }},
		{5, api.ErrForm, func(m *api.Msg) { m.Move, m.Value = true, "x" }},
		{5, api.ErrForm, func(m *api.Msg) { m.RDN, m.Attr = "x", "x" }},
	}
	for _, kind := range []int{api.MsgSearch, api.MsgUnbind, 17} {
		for i, a := range spoils {
			for j, b := range spoils {
				if i == j || a.rank > b.rank {
					continue
				}
				m := api.Msg{Kind: kind}
				b.put(&m)
				a.put(&m)
				want := a.want
				switch {
				case kind == 17:
					want = api.ErrArg
				case kind == api.MsgUnbind && a.rank == 2:
					// Its filter is not asked, but that it is there.
					want = b.want
					if b.rank == 5 {
						want = api.ErrForm
					}
				}
				if err := Check(m); err != want {
					t.Errorf("Check of kind %d, faults %d and %d: %d, not %d", kind, i, j, err, want)
				}
			}
		}
	}
}

// plainCheck says 19.2 word by word, of messages without filters that may not be.
func plainCheck(m api.Msg) api.Errno {
	if !slices.Contains(kinds, m.Kind) {
		return api.ErrArg
	}
	for _, n := range []int{m.ID, m.Limit, m.Target, m.Result.Code} {
		if n < 0 || n > 1<<31-1 {
			return api.ErrRange
		}
	}
	if m.Scope < 0 || m.Scope > 2 {
		return api.ErrRange
	}
	attrs := slices.Clone(m.Entry.Attrs)
	for _, o := range m.Mods {
		if o.Op < 0 || o.Op > 2 {
			return api.ErrRange
		}
		attrs = append(attrs, o.Attr)
	}
	if len(m.Attrs) > 1024 || len(m.Entry.Attrs) > 1024 || len(m.Mods) > 1024 || len(m.Controls) > 16 {
		return api.ErrLong
	}
	texts := append([]string{m.DN, m.Password, m.Entry.DN, m.RDN, m.Above, m.Attr, m.Value, m.Result.DN, m.Result.Text}, m.Attrs...)
	for _, a := range attrs {
		if len(a.Values) > 1024 {
			return api.ErrLong
		}
		texts = append(append(texts, a.Type), a.Values...)
	}
	for _, s := range texts {
		if len(s) > 4096 {
			return api.ErrLong
		}
	}
	for _, c := range m.Controls {
		if c.OID == "" || len(c.OID) > 64 || strings.Trim(c.OID, ".0123456789") != "" {
			return api.ErrName
		}
		if len(c.Value) > 1024 {
			return api.ErrLong
		}
	}
	// What its kind has is put into bytes; what is left out of them it has not.
	bare := api.Msg{ID: m.ID, Kind: m.Kind, Controls: m.Controls}
	has := func(l ...int) bool { return slices.Contains(l, m.Kind) }
	if has(0, 3, 6, 10, 12, 14) {
		bare.DN = m.DN
	}
	if has(0) {
		bare.Password = m.Password
	}
	if has(3) {
		bare.Scope, bare.Limit, bare.Types, bare.Filter, bare.Attrs = m.Scope, m.Limit, m.Types, m.Filter, m.Attrs
	}
	if has(4, 8) {
		bare.Entry = m.Entry
	}
	if has(6) {
		bare.Mods = m.Mods
	}
	if has(12) {
		bare.RDN, bare.DropOld, bare.Move = m.RDN, m.DropOld, m.Move
		if m.Move {
			bare.Above = m.Above
		}
	}
	if has(14) {
		bare.Attr, bare.Value = m.Attr, m.Value
	}
	if has(16) {
		bare.Target = m.Target
	}
	if has(resultKinds...) {
		bare.Result = m.Result
	}
	if told(bare) != told(m) {
		return api.ErrForm
	}
	return api.OK
}

// told tells all fields of m as one text.
func told(m api.Msg) string {
	var out []string
	text := func(l ...string) {
		for _, s := range l {
			out = append(out, strconv.Quote(s))
		}
	}
	number := func(l ...int) {
		for _, n := range l {
			out = append(out, strconv.Itoa(n))
		}
	}
	truths := func(l ...bool) {
		for _, b := range l {
			out = append(out, strconv.FormatBool(b))
		}
	}
	attrs := func(l ...api.Attr) {
		for _, a := range l {
			number(len(a.Values))
			text(a.Type)
			text(a.Values...)
		}
	}
	var filters func(l []api.Filter)
	filters = func(l []api.Filter) {
		number(len(l))
		for _, f := range l {
			number(f.Kind, len(f.Subs.Mids))
			text(f.Attr, f.Value, f.Subs.Head, f.Subs.Tail)
			text(f.Subs.Mids...)
			filters(f.List)
		}
	}
	number(m.ID, m.Kind, m.Scope, m.Limit, m.Target, m.Result.Code, len(m.Attrs), len(m.Entry.Attrs), len(m.Mods), len(m.Controls))
	truths(m.Types, m.DropOld, m.Move)
	text(m.DN, m.Password, m.Entry.DN, m.RDN, m.Above, m.Attr, m.Value, m.Result.DN, m.Result.Text)
	text(m.Attrs...)
	filters([]api.Filter{m.Filter})
	attrs(m.Entry.Attrs...)
	for _, o := range m.Mods {
		number(o.Op)
		attrs(o.Attr)
	}
	for _, c := range m.Controls {
		text(c.OID, c.Value)
		truths(c.Critical)
	}
	return strings.Join(out, " ")
}

// spoiledMessages tells messages with up to three fields that their kind has, or has not, or that may not be.
func spoiledMessages() []api.Msg {
	var puts []func(*api.Msg)
	for _, f := range fields() {
		if f.what != "Filter's List" {
			puts = append(puts, f.put)
		}
	}
	puts = append(puts,
		func(m *api.Msg) { m.ID = -1 },
		func(m *api.Msg) { m.Mods = []api.Mod{{Op: 2}, {Op: -1}} },
		func(m *api.Msg) { m.Result.Text = most + "t" },
		func(m *api.Msg) { m.Controls = []api.Control{{OID: "1"}, {}} },
		func(m *api.Msg) { m.Controls = []api.Control{{OID: "1", Value: most[:1025]}, {}} },
	)
	var out []api.Msg
	for kind := range 26 {
		for i := range puts {
			for j := range i + 1 {
				for k := range j + 1 {
					m := api.Msg{Kind: kind}
					puts[i](&m)
					puts[j](&m)
					puts[k](&m)
					out = append(out, m)
				}
			}
		}
	}
	return out
}

// TestPlain holds Check, Put and Read against what the chapter says word by word.
func TestPlain(t *testing.T) {
	for _, m := range spoiledMessages() {
		want := plainCheck(m)
		if err := Check(m); err != want {
			t.Fatalf("Check of %s: %d, not %d", told(m), err, want)
		}
		s, err := Put(m)
		if want != api.OK {
			if err != want || s != "" {
				t.Fatalf("Put of %s: %q, %d", told(m), s, err)
			}
			continue
		}
		if err != api.OK || s != coded(m) {
			t.Fatalf("Put of %s: %q, %d", told(m), s, err)
		}
		if n, err := Read(s); err != api.OK || told(n) != told(m) {
			t.Fatalf("Read of %q: %s, %d", s, told(n), err)
		}
	}
}

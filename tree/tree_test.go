package tree

import (
	"math"
	"slices"
	"strings"
	"testing"

	"bothy/api"
	"bothy/ber"
)

// nested tells text with so many levels of tag 48 around it; lengths are ber's.
func nested(t *testing.T, levels int, text string) string {
	t.Helper()
	for range levels {
		put, err := ber.Put(48, text)
		if err != api.OK {
			t.Fatalf("Put around %d bytes: error %d", len(text), err)
		}
		text = put
	}
	return text
}

// unread are texts that ber's Read does not take, and the error that it answers.
var unread = []struct {
	s   string
	err api.Errno
}{
	{"", api.ErrCut},
	{"\x1f", api.ErrTag},
	{"\x1f\x00", api.ErrTag},
	{"\xff\x00", api.ErrTag},
	{"\x30", api.ErrCut},
	{"\x04", api.ErrCut},
	{"\x30\x01", api.ErrCut},
	{"\x30\x03\x04\x00", api.ErrCut},
	{"\x30\x82\x01", api.ErrCut},
	{"\x30\x80", api.ErrForm},
	{"\x30\x80\x00\x00", api.ErrForm},
	{"\x30\x85\x00", api.ErrForm},
	{"\x30\x81\x00", api.ErrForm},
	{"\x30\x81\x02\x04\x00", api.ErrForm},
	{"\x30\x83\x01\x00\x01", api.ErrLong},
}

// checks are texts and mosts, and what Check answers, written out by hand.
var checks = []struct {
	s    string
	most int
	err  api.Errno
}{
	// Without parts.
	{"\x04\x00", 1, api.OK},
	{"\x04\x02ab", 1, api.OK},
	{"\x04\x02ab", 2, api.OK},
	{"\x80\x01x", 1, api.OK},
	{"\x04\x03\x1f\x80\xff", 1, api.OK},
	{"\x10\x01\x1f", 1, api.OK},
	{"\xc0\x01\x1f", 1, api.OK},
	// With parts.
	{"\x30\x00", 1, api.OK},
	{"\x30\x02\x04\x00", 1, api.ErrDeep},
	{"\x30\x02\x04\x00", 2, api.OK},
	{"\x30\x02\x04\x00", 3, api.OK},
	{"\x30\x06\x04\x01a\x02\x01\x05", 1, api.ErrDeep},
	{"\x30\x06\x04\x01a\x02\x01\x05", 2, api.OK},
	{"\x30\x02\x30\x00", 1, api.ErrDeep},
	{"\x30\x02\x30\x00", 2, api.OK},
	{"\x60\x04\xa0\x02\x04\x00", 2, api.ErrDeep},
	{"\x60\x04\xa0\x02\x04\x00", 3, api.OK},
	{"\x30\x06\x30\x02\x30\x00\x04\x00", 2, api.ErrDeep},
	{"\x30\x06\x30\x02\x30\x00\x04\x00", 3, api.OK},
	{"\x30\x06\x04\x00\x30\x02\x30\x00", 2, api.ErrDeep},
	{"\x30\x06\x04\x00\x30\x02\x30\x00", 3, api.OK},
	// What stands behind.
	{"\x04\x00\x00", 1, api.ErrForm},
	{"\x04\x00\x04\x00", 9, api.ErrForm},
	{"\x30\x00\x00", 1, api.ErrForm},
	{"\x30\x00\x1f", 9, api.ErrForm},
	// ErrForm of what stands behind is told ahead of what stands within.
	{"\x30\x01\x1f\x00", 9, api.ErrForm},
	{"\x30\x02\x04\x00\x00", 1, api.ErrForm},
	// The body's error.
	{"\x30\x01\x04", 9, api.ErrCut},
	{"\x30\x01\x1f", 9, api.ErrTag},
	{"\x30\x02\x04\x80", 9, api.ErrForm},
	{"\x30\x02\x04\x01", 9, api.ErrCut},
	{"\x30\x05\x04\x83\x01\x00\x01", 9, api.ErrLong},
	{"\x30\x03\x04\x00\x00", 9, api.ErrCut},
	// It is told ahead of the parts' errors, and of ErrDeep.
	{"\x30\x01\x1f", 1, api.ErrTag},
	{"\x30\x03\x04\x00\x04", 1, api.ErrCut},
	{"\x30\x05\x30\x02\x04\x80\x1f", 9, api.ErrTag},
	{"\x30\x04\x30\x01\x1f\x04", 9, api.ErrCut},
	// A part's body's error.
	{"\x30\x03\x30\x01\x1f", 2, api.ErrTag},
	{"\x30\x03\x30\x01\x1f", 1, api.ErrDeep},
	{"\x30\x05\x04\x00\x30\x01\x1f", 9, api.ErrTag},
	{"\x30\x05\x30\x03\x30\x01\x1f", 9, api.ErrTag},
	{"\x30\x05\x30\x03\x30\x01\x1f", 2, api.ErrDeep},
	// The first part's error is told.
	{"\x30\x06\x30\x01\x1f\x30\x01\x04", 9, api.ErrTag},
	{"\x30\x06\x30\x01\x04\x30\x01\x1f", 9, api.ErrCut},
	{"\x30\x07\x30\x02\x04\x00\x30\x01\x1f", 2, api.ErrDeep},
	{"\x30\x07\x30\x01\x1f\x30\x02\x04\x00", 2, api.ErrTag},
	// A part is asked to its end ahead of the one behind it.
	{"\x30\x08\x30\x03\x30\x01\x1f\x30\x01\x04", 9, api.ErrTag},
	{"\x30\x08\x30\x03\x30\x01\x1f\x30\x01\x04", 2, api.ErrDeep},
}

func TestCheck(t *testing.T) {
	for _, c := range checks {
		if err := Check(c.s, c.most); err != c.err {
			t.Errorf("Check of %q, %d: %d", c.s, c.most, err)
		}
	}
}

func TestCheckUnread(t *testing.T) {
	for _, u := range unread {
		for _, most := range []int{1, 2, 64, 65, math.MaxInt} {
			if err := Check(u.s, most); err != u.err {
				t.Errorf("Check of %q, %d: %d", u.s, most, err)
			}
		}
		if got := Depth(u.s); got != 0 {
			t.Errorf("Depth of %q: %d", u.s, got)
		}
	}
}

func TestCheckBelowOne(t *testing.T) {
	texts := []string{"\x04\x00", "\x30\x00", "\x30\x00x", "\x30\x01\x1f"}
	for _, u := range unread {
		texts = append(texts, u.s)
	}
	for _, s := range texts {
		for _, most := range []int{0, -1, -2, -64, math.MinInt32, math.MinInt, math.MinInt + 1} {
			if err := Check(s, most); err != api.ErrDeep {
				t.Errorf("Check of %q, %d: %d", s, most, err)
			}
		}
	}
}

// TestCheckTags holds, of each tag, that the bit of 32 says whether there are parts.
func TestCheckTags(t *testing.T) {
	for tag := range 256 {
		err, depth := api.OK, 1
		switch {
		case tag%32 == 31:
			err, depth = api.ErrTag, 0
		case tag/32%2 == 1:
			err, depth = api.ErrCut, 0
		}
		s := string([]byte{byte(tag), 1, 4})
		if got := Check(s, 9); got != err {
			t.Errorf("Check of %q: %d", s, got)
		}
		if got := Depth(s); got != depth {
			t.Errorf("Depth of %q: %d", s, got)
		}
		if depth == 1 {
			continue
		}
		if err == api.ErrCut {
			err, depth = api.OK, 2
		}
		s = string([]byte{byte(tag), 2, 4, 0})
		if got := Check(s, 9); got != err {
			t.Errorf("Check of %q: %d", s, got)
		}
		if got := Depth(s); got != depth {
			t.Errorf("Depth of %q: %d", s, got)
		}
	}
}

func TestCheckMost(t *testing.T) {
	mosts := []int{1, 2, 3, 16, 17, 62, 63, 64, 65, 66, 67, 100, 128, 1 << 20, math.MaxInt32, math.MaxInt}
	for _, levels := range []int{1, 2, 15, 16, 17, 62, 63, 64, 65, 66, 99, 1000} {
		for _, s := range []string{nested(t, levels-1, "\x04\x01x"), nested(t, levels-1, "\x30\x00")} {
			for _, most := range mosts {
				want := api.OK
				if levels > most || levels > 64 {
					want = api.ErrDeep
				}
				if err := Check(s, most); err != want {
					t.Errorf("Check of %d levels, %d: %d", levels, most, err)
				}
			}
			want := levels
			if levels > 64 {
				want = 0
			}
			if got := Depth(s); got != want {
				t.Errorf("Depth of %d levels: %d", levels, got)
			}
		}
	}
}

// TestCheckBrokenDeep holds that a broken body is told as long as its level may be there, and ErrDeep behind that.
func TestCheckBrokenDeep(t *testing.T) {
	for _, levels := range []int{1, 2, 63, 64, 65, 66} {
		s := nested(t, levels-1, "\x30\x01\x1f")
		for _, most := range []int{1, 2, 62, 63, 64, 65, 66, math.MaxInt} {
			want := api.ErrTag
			if levels > most || levels > 64 {
				want = api.ErrDeep
			}
			if err := Check(s, most); err != want {
				t.Errorf("Check of a broken body on level %d, %d: %d", levels, most, err)
			}
		}
		if got := Depth(s); got != 0 {
			t.Errorf("Depth of a broken body on level %d: %d", levels, got)
		}
	}
}

func TestCheckMany(t *testing.T) {
	for _, part := range []string{"\x04\x00", "\x30\x00", "\x30\x02\x04\x00"} {
		for _, count := range []int{api.MaxList, api.MaxList + 1} {
			want, depth := api.OK, 1+Depth(part)
			if count > api.MaxList {
				want, depth = api.ErrLong, 0
			}
			s := nested(t, 1, strings.Repeat(part, count))
			if err := Check(s, 9); err != want {
				t.Errorf("Check of %d of %q: %d", count, part, err)
			}
			if got := Depth(s); got != depth {
				t.Errorf("Depth of %d of %q: %d", count, part, got)
			}
			inner := nested(t, 1, s)
			if err := Check(inner, 9); err != want {
				t.Errorf("Check of %d of %q, a level below: %d", count, part, err)
			}
		}
	}
	// Parts count within one body alone.
	half := nested(t, 1, strings.Repeat("\x04\x00", api.MaxList))
	if err := Check(nested(t, 1, half+half), 3); err != api.OK {
		t.Errorf("Check of twice as many parts: %d", err)
	}
}

func TestDepth(t *testing.T) {
	cases := []struct {
		s    string
		want int
	}{
		{"\x04\x00", 1},
		{"\x04\x02ab", 1},
		{"\x04\x03\x1f\x80\xff", 1},
		{"\x10\x02\x04\x00", 1},
		{"\x30\x00", 1},
		{"\x30\x02\x04\x00", 2},
		{"\x30\x02\x30\x00", 2},
		{"\x30\x06\x04\x01a\x02\x01\x05", 2},
		{"\x60\x04\xa0\x02\x04\x00", 3},
		// The deepest part counts, wherever it stands.
		{"\x30\x06\x30\x02\x30\x00\x04\x00", 3},
		{"\x30\x06\x04\x00\x30\x02\x30\x00", 3},
		{"\x30\x08\x04\x00\x30\x02\x30\x00\x04\x00", 3},
		{"\x30\x08\x30\x02\x30\x00\x30\x02\x30\x00", 3},
		{"\x30\x00\x00", 0},
		{"\x04\x00\x04\x00", 0},
		{"\x30\x01\x1f", 0},
		{"\x30\x05\x04\x00\x30\x01\x1f", 0},
		{"\x30\x05\x30\x01\x1f\x04\x00", 0},
	}
	for _, c := range cases {
		if got := Depth(c.s); got != c.want {
			t.Errorf("Depth of %q: %d", c.s, got)
		}
	}
}

// plainCheck says 3.1 word by word; each part is put again as bytes.
func plainCheck(s string, most int) api.Errno {
	if most < 1 {
		return api.ErrDeep
	}
	most = min(most, 64)
	one, size, err := ber.Read(s)
	if err != api.OK {
		return err
	}
	if len(s) > size {
		return api.ErrForm
	}
	if one.Tag/32%2 == 0 {
		return api.OK
	}
	parts, err := ber.All(one.Body)
	if err != api.OK {
		return err
	}
	for _, part := range parts {
		text, err := ber.Put(part.Tag, part.Body)
		if err != api.OK {
			return err
		}
		if err := plainCheck(text, most-1); err != api.OK {
			return err
		}
	}
	return api.OK
}

// TestCheckShort goes over all texts of up to six of some bytes, by themselves and as a body.
func TestCheckShort(t *testing.T) {
	some := []byte{0, 2, 4, 6, 31, 48}
	checkOne := func(s string) {
		least := 0
		for most := 5; most >= 0; most-- {
			want := plainCheck(s, most)
			if err := Check(s, most); err != want {
				t.Fatalf("Check of %q, %d: %d", s, most, err)
			}
			if want == api.OK {
				least = most
			}
		}
		if got := Depth(s); got != least {
			t.Fatalf("Depth of %q: %d", s, got)
		}
	}
	var goOver func(s []byte, more int)
	goOver = func(s []byte, more int) {
		checkOne(string(s))
		if more == 0 {
			return
		}
		for _, b := range some {
			goOver(append(s, b), more-1)
		}
	}
	goOver(nil, 6)
	goOver([]byte{48, 6}, 6)
}

func TestSeq(t *testing.T) {
	cases := []struct {
		l    []string
		want string
	}{
		{nil, "\x30\x00"},
		{[]string{}, "\x30\x00"},
		{[]string{""}, "\x30\x00"},
		{[]string{"", "", ""}, "\x30\x00"},
		{[]string{"\x04\x00"}, "\x30\x02\x04\x00"},
		{[]string{"\x04\x01a", "\x02\x01\x05"}, "\x30\x06\x04\x01a\x02\x01\x05"},
		{[]string{"\x02\x01\x05", "", "\x04\x01a"}, "\x30\x06\x02\x01\x05\x04\x01a"},
		{[]string{"\x30\x00", "\x30\x00"}, "\x30\x04\x30\x00\x30\x00"},
		// Whatever the texts are.
		{[]string{"a", "bc"}, "\x30\x03abc"},
		{[]string{"\x1f", "\x80", "\xff"}, "\x30\x03\x1f\x80\xff"},
		{[]string{strings.Repeat("x", 127)}, "\x30\x7f" + strings.Repeat("x", 127)},
		{[]string{strings.Repeat("x", 127), "y"}, "\x30\x81\x80" + strings.Repeat("x", 127) + "y"},
	}
	for _, c := range cases {
		if got, err := Seq(c.l...); err != api.OK || got != c.want {
			t.Errorf("Seq of %q: %q, %d", c.l, got, err)
		}
	}
}

func TestSeqLong(t *testing.T) {
	most := strings.Repeat("m", api.MaxBody)
	huge := strings.Repeat("h", 1<<20)
	cases := []struct {
		l   []string
		err api.Errno
	}{
		{[]string{most[1:]}, api.OK},
		{[]string{most}, api.OK},
		{[]string{most, ""}, api.OK},
		{[]string{"", most[1:], "", "a"}, api.OK},
		{[]string{most[:api.MaxBody/2], most[api.MaxBody/2:]}, api.OK},
		{[]string{most, "a"}, api.ErrLong},
		{[]string{"a", most}, api.ErrLong},
		{[]string{most[1:], "ab"}, api.ErrLong},
		{[]string{most[1:], "a", "b"}, api.ErrLong},
		{[]string{most[1:], "a", "", "", "b", ""}, api.ErrLong},
		{[]string{most + "a"}, api.ErrLong},
		{[]string{most, most}, api.ErrLong},
		{[]string{huge}, api.ErrLong},
		{slices.Repeat([]string{huge}, 1<<10), api.ErrLong},
	}
	for i, c := range cases {
		want := ""
		if c.err == api.OK {
			want = nested(t, 1, strings.Join(c.l, ""))
		}
		if got, err := Seq(c.l...); err != c.err || got != want {
			t.Errorf("Seq %d: %d bytes, %d", i, len(got), err)
		}
	}
}

func TestSeqManyParts(t *testing.T) {
	// How many there are is not asked.
	l := make([]string, 5*api.MaxList)
	for i := range l {
		l[i] = "\x04\x00"
	}
	if got, err := Seq(l...); err != api.OK || got != nested(t, 1, strings.Repeat("\x04\x00", len(l))) {
		t.Errorf("Seq of %d: %d bytes, %d", len(l), len(got), err)
	}
}

// parts are texts and tags, and what Parts answers, written out by hand.
var parts = []struct {
	s    string
	tags []int
	want []string
	err  api.Errno
}{
	{"\x30\x00", nil, nil, api.OK},
	{"\x30\x00", []int{}, nil, api.OK},
	{"\x30\x02\x04\x00", []int{4}, []string{""}, api.OK},
	{"\x30\x06\x04\x01a\x02\x01\x05", []int{4, 2}, []string{"a", "\x05"}, api.OK},
	{"\x30\x06\x02\x01\x05\x04\x01a", []int{2, 4}, []string{"\x05", "a"}, api.OK},
	{"\x30\x06\x04\x01a\x04\x01a", []int{4, 4}, []string{"a", "a"}, api.OK},
	// A part's own parts are told as its bytes are, whatever they are.
	{"\x30\x07\x30\x02\x04\x00\x30\x01\x1f", []int{48, 48}, []string{"\x04\x00", "\x1f"}, api.OK},
	{"\x30\x04\x00\x00\xfe\x00", []int{0, 254}, []string{"", ""}, api.OK},
	// Another tag than 48.
	{"\x31\x02\x04\x00", []int{4}, nil, api.ErrTag},
	{"\x10\x02\x04\x00", []int{4}, nil, api.ErrTag},
	{"\x04\x00", nil, nil, api.ErrTag},
	{"\xb0\x00", nil, nil, api.ErrTag},
	// It is told ahead of what stands behind, which is told ahead of what stands within.
	{"\x31\x00x", nil, nil, api.ErrTag},
	{"\x31\x01\x1f", nil, nil, api.ErrTag},
	{"\x30\x00x", nil, nil, api.ErrForm},
	{"\x30\x02\x04\x00\x04\x00", []int{4}, nil, api.ErrForm},
	{"\x30\x02\x04\x00\x04\x00", []int{4, 4}, nil, api.ErrForm},
	{"\x30\x01\x1fx", nil, nil, api.ErrForm},
	// The body's error, ahead of how many there are, and of which tags.
	{"\x30\x01\x1f", []int{4}, nil, api.ErrTag},
	{"\x30\x01\x04", []int{4}, nil, api.ErrCut},
	{"\x30\x01\x04", nil, nil, api.ErrCut},
	{"\x30\x02\x04\x01", []int{4}, nil, api.ErrCut},
	{"\x30\x02\x04\x80", []int{4}, nil, api.ErrForm},
	{"\x30\x05\x04\x83\x01\x00\x01", []int{4}, nil, api.ErrLong},
	{"\x30\x03\x04\x00\x1f", []int{4}, nil, api.ErrTag},
	{"\x30\x03\x04\x00\x04", []int{4, 4}, nil, api.ErrCut},
	{"\x30\x03\x04\x00\x04", []int{2}, nil, api.ErrCut},
	// More, or fewer, ahead of which tags.
	{"\x30\x00", []int{4}, nil, api.ErrForm},
	{"\x30\x02\x04\x00", nil, nil, api.ErrForm},
	{"\x30\x02\x04\x00", []int{4, 4}, nil, api.ErrForm},
	{"\x30\x02\x04\x00", []int{2, 4}, nil, api.ErrForm},
	{"\x30\x06\x04\x01a\x02\x01\x05", []int{4}, nil, api.ErrForm},
	{"\x30\x06\x04\x01a\x02\x01\x05", []int{2}, nil, api.ErrForm},
	{"\x30\x06\x04\x01a\x02\x01\x05", []int{4, 2, 2}, nil, api.ErrForm},
	// Other tags.
	{"\x30\x02\x04\x00", []int{2}, nil, api.ErrTag},
	{"\x30\x06\x04\x01a\x02\x01\x05", []int{4, 4}, nil, api.ErrTag},
	{"\x30\x06\x04\x01a\x02\x01\x05", []int{2, 2}, nil, api.ErrTag},
	{"\x30\x06\x04\x01a\x02\x01\x05", []int{2, 4}, nil, api.ErrTag},
	{"\x30\x02\x04\x00", []int{36}, nil, api.ErrTag},
	{"\x30\x02\x04\x00", []int{256 + 4}, nil, api.ErrTag},
	{"\x30\x02\x04\x00", []int{4 - 256}, nil, api.ErrTag},
	{"\x30\x02\x04\x00", []int{-4}, nil, api.ErrTag},
	{"\x30\x02\x00\x00", []int{math.MinInt}, nil, api.ErrTag},
	{"\x30\x02\x00\x00", []int{math.MaxInt}, nil, api.ErrTag},
}

func TestParts(t *testing.T) {
	for _, p := range parts {
		got, err := Parts(p.s, p.tags...)
		if err != p.err || !slices.Equal(got, p.want) {
			t.Errorf("Parts of %q, %d: %q, %d", p.s, p.tags, got, err)
		}
	}
}

func TestPartsUnread(t *testing.T) {
	for _, u := range unread {
		for _, tags := range [][]int{nil, {4}, {4, 2}} {
			if got, err := Parts(u.s, tags...); len(got) != 0 || err != u.err {
				t.Errorf("Parts of %q, %d: %q, %d", u.s, tags, got, err)
			}
		}
	}
}

func TestPartsMany(t *testing.T) {
	for _, count := range []int{api.MaxList - 1, api.MaxList, api.MaxList + 1} {
		s := nested(t, 1, strings.Repeat("\x04\x01a", count))
		tags := slices.Repeat([]int{4}, count)
		want, wantErr := slices.Repeat([]string{"a"}, count), api.OK
		if count > api.MaxList {
			want, wantErr = nil, api.ErrLong
		}
		if got, err := Parts(s, tags...); err != wantErr || !slices.Equal(got, want) {
			t.Errorf("Parts of %d: %d told, error %d", count, len(got), err)
		}
		tags[count-1] = 2
		if wantErr == api.OK {
			wantErr = api.ErrTag
		}
		if got, err := Parts(s, tags...); len(got) != 0 || err != wantErr {
			t.Errorf("Parts of %d, the last of another tag: %d told, error %d", count, len(got), err)
		}
	}
}

// TestSeqIsRead holds that what Seq puts together Parts takes apart, up to the longest.
func TestSeqIsRead(t *testing.T) {
	for count := range 40 {
		var l, want []string
		var tags []int
		for i := range count {
			body := strings.Repeat("b", i*i)
			text, err := ber.Put(5*i, body)
			if err != api.OK {
				continue
			}
			l, want, tags = append(l, text), append(want, body), append(tags, 5*i)
		}
		s, err := Seq(l...)
		if err != api.OK {
			t.Fatalf("Seq of %d: error %d", len(l), err)
		}
		if got, err := Parts(s, tags...); err != api.OK || !slices.Equal(got, want) {
			t.Errorf("Parts of Seq of %d: %d told, error %d", len(l), len(got), err)
		}
	}
	text, err := ber.Put(4, strings.Repeat("b", api.MaxBody-4))
	if err != api.OK || len(text) != api.MaxBody {
		t.Fatalf("Put: %d bytes, %d", len(text), err)
	}
	s, err := Seq(text)
	if err != api.OK {
		t.Fatalf("Seq of the longest: %d", err)
	}
	if got, err := Parts(s, 4); err != api.OK || len(got) != 1 || got[0] != text[4:] {
		t.Errorf("Parts of the longest: %d told, %d", len(got), err)
	}
	if got := Depth(s); got != 2 {
		t.Errorf("Depth of the longest: %d", got)
	}
}

// TestHandedIn holds that lists that are handed in stay as they are.
func TestHandedIn(t *testing.T) {
	l, tags := []string{"\x04\x01a", "\x02\x01\x05"}, []int{4, 2}
	s, err := Seq(l[:1]...)
	if err != api.OK || s != "\x30\x03\x04\x01a" {
		t.Errorf("Seq of the first one: %q, %d", s, err)
	}
	if got, err := Parts(s, tags[:1]...); err != api.OK || !slices.Equal(got, []string{"a"}) {
		t.Errorf("Parts of the first one: %q, %d", got, err)
	}
	if !slices.Equal(l, []string{"\x04\x01a", "\x02\x01\x05"}) || !slices.Equal(tags, []int{4, 2}) {
		t.Errorf("handed in: %q, %d", l, tags)
	}
}

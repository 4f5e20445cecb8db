package ber

import (
	"math"
	"strings"
	"testing"

	"bothy/api"
)

// bytesOf tells n bytes that are not all the same.
func bytesOf(n int) string {
	b := make([]byte, n)
	for i := range b {
		b[i] = byte(i*7 + i>>8)
	}
	return string(b)
}

// lengths are written out by hand, so that they do not hang on the code they are held against.
var lengths = []struct {
	n    int
	text string
}{
	{0, "\x00"},
	{1, "\x01"},
	{2, "\x02"},
	{126, "\x7e"},
	{127, "\x7f"},
	{128, "\x81\x80"},
	{129, "\x81\x81"},
	{254, "\x81\xfe"},
	{255, "\x81\xff"},
	{256, "\x82\x01\x00"},
	{257, "\x82\x01\x01"},
	{4660, "\x82\x12\x34"},
	{65280, "\x82\xff\x00"},
	{65535, "\x82\xff\xff"},
	{65536, "\x83\x01\x00\x00"},
}

func TestPutLengths(t *testing.T) {
	for _, l := range lengths {
		body := bytesOf(l.n)
		got, err := Put(48, body)
		if err != api.OK || got != "0"+l.text+body {
			t.Errorf("Put of %d bytes: error %d, begins with %q", l.n, err, got[:min(len(got), 6)])
		}
	}
}

func TestPutExample(t *testing.T) {
	if got, err := Put(4, "ab"); err != api.OK || got != "\x04\x02ab" {
		t.Errorf("Put(4, ab): %q, %d", got, err)
	}
}

func TestPutTags(t *testing.T) {
	for tag := -300; tag <= 600; tag++ {
		good := tag >= 0 && tag <= 254 && tag%32 != 31
		got, err := Put(tag, "x")
		if good && (err != api.OK || got != string([]byte{byte(tag), 1, 'x'})) {
			t.Errorf("Put of tag %d: %q, %d", tag, got, err)
		}
		if !good && (err != api.ErrTag || got != "") {
			t.Errorf("Put of no tag %d: %q, %d", tag, got, err)
		}
	}
	for _, tag := range []int{math.MinInt, math.MinInt32, math.MaxInt32, math.MaxInt, 1 << 16, 1<<16 + 4} {
		if got, err := Put(tag, ""); err != api.ErrTag || got != "" {
			t.Errorf("Put of no tag %d: %q, %d", tag, got, err)
		}
	}
}

func TestPutLong(t *testing.T) {
	for _, n := range []int{api.MaxBody + 1, api.MaxBody + 2, 2 * api.MaxBody, 1 << 24} {
		if got, err := Put(4, bytesOf(n)); err != api.ErrLong || got != "" {
			t.Errorf("Put of %d bytes: %d bytes, %d", n, len(got), err)
		}
	}
	if got, err := Put(31, bytesOf(api.MaxBody+1)); err != api.ErrTag || got != "" {
		t.Errorf("Put of no tag and too many bytes: %d bytes, %d", len(got), err)
	}
}

func TestHeadLengths(t *testing.T) {
	for _, l := range lengths {
		for _, behind := range []string{"", "x", bytesOf(l.n)} {
			tag, n, size, err := Head("\xa3" + l.text + behind)
			if tag != 163 || n != l.n || size != 1+len(l.text) || err != api.OK {
				t.Errorf("Head of %d bytes: %d, %d, %d, %d", l.n, tag, n, size, err)
			}
		}
	}
}

func TestHeadTags(t *testing.T) {
	for b := range 256 {
		tag, n, size, err := Head(string([]byte{byte(b), 5}))
		if b%32 == 31 {
			if tag != 0 || n != 0 || size != 0 || err != api.ErrTag {
				t.Errorf("Head of no tag %d: %d, %d, %d, %d", b, tag, n, size, err)
			}
		} else if tag != b || n != 5 || size != 2 || err != api.OK {
			t.Errorf("Head of tag %d: %d, %d, %d, %d", b, tag, n, size, err)
		}
	}
}

// broken are texts that neither Head nor Read takes, and the error that both answer.
var broken = []struct {
	s   string
	err api.Errno
}{
	{"", api.ErrCut},
	{"\x1f", api.ErrTag},
	{"\xff", api.ErrTag},
	{"\x3f\x80", api.ErrTag},
	{"\x5f\x01x", api.ErrTag},
	{"\x04", api.ErrCut},
	{"\xfe", api.ErrCut},
	// No length has no bytes behind, or more than four; that is told even where they lack.
	{"\x04\x80", api.ErrForm},
	{"\x04\x80xx\x00\x00", api.ErrForm},
	{"\x04\x85", api.ErrForm},
	{"\x04\x85\x01\x00\x00\x00\x00", api.ErrForm},
	{"\x04\x85\x00\x00\x00\x00\x01x", api.ErrForm},
	{"\x04\xff", api.ErrForm},
	// Bytes that lack are told ahead of what is wrong with those that are there.
	{"\x04\x81", api.ErrCut},
	{"\x04\x82", api.ErrCut},
	{"\x04\x82\x00", api.ErrCut},
	{"\x04\x82\x01", api.ErrCut},
	{"\x04\x83\x00\x00", api.ErrCut},
	{"\x04\x83\x02\x00", api.ErrCut},
	{"\x04\x84", api.ErrCut},
	{"\x04\x84\xff\xff\xff", api.ErrCut},
	// Not as short as can be.
	{"\x04\x81\x00", api.ErrForm},
	{"\x04\x81\x01x", api.ErrForm},
	{"\x04\x81\x7f", api.ErrForm},
	{"\x04\x82\x00\x00", api.ErrForm},
	{"\x04\x82\x00\x05", api.ErrForm},
	{"\x04\x82\x00\x80", api.ErrForm},
	{"\x04\x82\x00\xff", api.ErrForm},
	{"\x04\x83\x00\x01\x00", api.ErrForm},
	{"\x04\x83\x00\xff\xff", api.ErrForm},
	{"\x04\x84\x00\x00\x00\x00", api.ErrForm},
	{"\x04\x84\x00\x01\x00\x00", api.ErrForm},
	// Not as short as can be, and too long as well.
	{"\x04\x84\x00\x02\x00\x00", api.ErrForm},
	{"\x04\x84\x00\xff\xff\xff", api.ErrForm},
	// Above MaxBody, which is told ahead of a body that lacks.
	{"\x04\x83\x01\x00\x01", api.ErrLong},
	{"\x04\x83\x01\x01\x00", api.ErrLong},
	{"\x04\x83\xff\xff\xff", api.ErrLong},
	{"\x04\x84\x01\x00\x00\x00", api.ErrLong},
	{"\x04\x84\x7f\xff\xff\xff", api.ErrLong},
	{"\x04\x84\x80\x00\x00\x00", api.ErrLong},
	{"\x04\x84\xff\xff\xff\xff", api.ErrLong},
}

func TestBroken(t *testing.T) {
	for _, b := range broken {
		if tag, n, size, err := Head(b.s); tag != 0 || n != 0 || size != 0 || err != b.err {
			t.Errorf("Head of %q: %d, %d, %d, %d", b.s, tag, n, size, err)
		}
		if one, size, err := Read(b.s); one != (api.TLV{}) || size != 0 || err != b.err {
			t.Errorf("Read of %q: %#v, %d, %d", b.s, one, size, err)
		}
	}
}

func TestHeadSecondByte(t *testing.T) {
	for b := range 256 {
		tag, n, size, err := Head(string([]byte{4, byte(b)}))
		switch {
		case b < 128:
			if tag != 4 || n != b || size != 2 || err != api.OK {
				t.Errorf("Head of second byte %d: %d, %d, %d, %d", b, tag, n, size, err)
			}
		case b > 128 && b <= 132:
			if err != api.ErrCut {
				t.Errorf("Head of second byte %d: %d", b, err)
			}
		default:
			if err != api.ErrForm {
				t.Errorf("Head of second byte %d: %d", b, err)
			}
		}
	}
}

func TestReadCut(t *testing.T) {
	for _, l := range lengths {
		whole := "\x04" + l.text + bytesOf(l.n)
		for cut := range len(whole) {
			if cut > 8 && cut < len(whole)-8 {
				continue
			}
			if one, size, err := Read(whole[:cut]); one != (api.TLV{}) || size != 0 || err != api.ErrCut {
				t.Errorf("Read of %d of %d bytes: %d, %d, %d", cut, len(whole), one.Tag, size, err)
			}
		}
	}
}

// TestReadShort goes over all texts of up to three bytes: what is read is what Put says, and nothing else is.
func TestReadShort(t *testing.T) {
	check := func(s string) {
		one, size, err := Read(s)
		if err != api.OK {
			if one != (api.TLV{}) || size != 0 {
				t.Fatalf("Read of %q: %#v, %d beside error %d", s, one, size, err)
			}
			return
		}
		if put, err := Put(one.Tag, one.Body); err != api.OK || size != len(put) || s[:size] != put {
			t.Fatalf("Read of %q: %#v, %d", s, one, size)
		}
	}
	check("")
	for a := range 256 {
		check(string([]byte{byte(a)}))
		for b := range 256 {
			check(string([]byte{byte(a), byte(b)}))
			for c := range 256 {
				check(string([]byte{byte(a), byte(b), byte(c)}))
			}
		}
	}
}

func TestAll(t *testing.T) {
	cases := []struct {
		s    string
		want []api.TLV
	}{
		{"", nil},
		{"\x04\x00", []api.TLV{{Tag: 4}}},
		{"\x04\x02ab", []api.TLV{{Tag: 4, Body: "ab"}}},
		{"\x04\x02ab\x02\x01\x05\x30\x00", []api.TLV{{Tag: 4, Body: "ab"}, {Tag: 2, Body: "\x05"}, {Tag: 48}}},
		// What stands within a body is left as it is.
		{"\x30\x03\x1f\x80\xff\x00\x01x", []api.TLV{{Tag: 48, Body: "\x1f\x80\xff"}, {Tag: 0, Body: "x"}}},
	}
	for _, c := range cases {
		got, err := All(c.s)
		if err != api.OK || !same(got, c.want) {
			t.Errorf("All of %q: %#v, %d", c.s, got, err)
		}
	}
}

func same(a, b []api.TLV) bool {
	if len(a) != len(b) {
		return false
	}
	for i := range a {
		if a[i] != b[i] {
			return false
		}
	}
	return true
}

func TestAllBroken(t *testing.T) {
	for _, b := range broken {
		if b.s == "" {
			continue
		}
		for _, ahead := range []string{"", "\x04\x02ab", "\x04\x00\x30\x01x"} {
			if got, err := All(ahead + b.s); len(got) != 0 || err != b.err {
				t.Errorf("All of %q: %#v, %d", ahead+b.s, got, err)
			}
		}
	}
	for _, s := range []string{"\x04\x03ab", "\x04\x02ab\x04\x01", "\x04\x01a\x04\x05\x1f\x80"} {
		if got, err := All(s); len(got) != 0 || err != api.ErrCut {
			t.Errorf("All of %q: %#v, %d", s, got, err)
		}
	}
	// The first error counts.
	if got, err := All("\x04\x00\x1f\x00\x04\x80"); len(got) != 0 || err != api.ErrTag {
		t.Errorf("All of two errors: %#v, %d", got, err)
	}
}

func TestAllMost(t *testing.T) {
	cases := []struct {
		count  int
		behind string
		err    api.Errno
	}{
		{api.MaxList - 1, "", api.OK},
		{api.MaxList, "", api.OK},
		{api.MaxList + 1, "", api.ErrLong},
		{2 * api.MaxList, "", api.ErrLong},
		// What is no whole one is not one more.
		{api.MaxList, "\x1f", api.ErrTag},
		{api.MaxList, "\x04", api.ErrCut},
		{api.MaxList, "\x04\x01", api.ErrCut},
		// As soon as there is one more, what stands behind it is not asked.
		{api.MaxList + 1, "\x1f", api.ErrLong},
		{api.MaxList + 1, "\x04\x80", api.ErrLong},
	}
	for _, c := range cases {
		got, err := All(strings.Repeat("\x04\x01a", c.count) + c.behind)
		if err != c.err {
			t.Errorf("All of %d, and %q: error %d", c.count, c.behind, err)
		}
		want := c.count
		if c.err != api.OK {
			want = 0
		}
		if len(got) != want {
			t.Errorf("All of %d, and %q: %d told", c.count, c.behind, len(got))
		}
		for _, one := range got {
			if one != (api.TLV{Tag: 4, Body: "a"}) {
				t.Fatalf("All of %d: %#v", c.count, one)
			}
		}
	}
}

func TestPutIsRead(t *testing.T) {
	tails := []string{"", "\x00", "\xff", "\x1f\x80", "\x04\x02ab", strings.Repeat("\x84", 9)}
	check := func(tag int, body string) {
		put, err := Put(tag, body)
		if err != api.OK {
			t.Fatalf("Put(%d, %d bytes): error %d", tag, len(body), err)
		}
		for _, tail := range tails {
			one, size, err := Read(put + tail)
			if err != api.OK || size != len(put) || one != (api.TLV{Tag: tag, Body: body}) {
				t.Fatalf("Read of Put(%d, %d bytes) and %q: tag %d, %d bytes, %d, error %d", tag, len(body), tail, one.Tag, len(one.Body), size, err)
			}
		}
	}
	for tag := range 255 {
		if tag%32 == 31 {
			continue
		}
		for _, l := range lengths {
			if l.n <= 257 {
				check(tag, bytesOf(l.n))
			}
		}
	}
	most := bytesOf(api.MaxBody)
	for n := range 1000 {
		check(4, most[:n])
	}
	for n := 1000; n <= api.MaxBody; n += 997 {
		check(48, most[:n])
	}
	for _, n := range []int{api.MaxBody - 2, api.MaxBody - 1, api.MaxBody} {
		check(254, most[:n])
	}
}

// TestPutAllIsRead holds 1.3 of many, each one with the others behind it.
func TestPutAllIsRead(t *testing.T) {
	var text strings.Builder
	var want []api.TLV
	for i := range 400 {
		one := api.TLV{Tag: i % 31, Body: bytesOf(i)}
		put, err := Put(one.Tag, one.Body)
		if err != api.OK {
			t.Fatalf("Put of %d bytes: error %d", i, err)
		}
		text.WriteString(put)
		want = append(want, one)
	}
	if got, err := All(text.String()); err != api.OK || !same(got, want) {
		t.Errorf("All of what was put: %d told, error %d", len(got), err)
	}
}
